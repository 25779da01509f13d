/-
  GangTells' walk. No statement is proved here.
-/
import Derived.Test.YtglphgfaknofcaaKn
import Derived.Test.YtglphgfaknofcaaKb
import Derived.Test.YtglphgfaknofcaaGs
namespace Go.Proofs.Ytglphgfaknofcaa
open Go.RowKit Go.Maps

/-- no part of the gangs lies in block g -/
structure Off (g : Nat) (A : Option Addr) (n : Nat) (G : List Gn) : Prop where
  row : ∀ ad, A = some ad → 0 < n → ad.block ≠ g
  mem : ∀ x ∈ G, ∀ ad, x.2.1 = some ad → 0 < x.2.2.1 → ad.block ≠ g
theorem own_far {w : World} {B g n s : Nat} {e : TypeId} {A : Option Addr} {c m : Nat} {xs : List Value} (h : w.ownsRow B e s (.slice A m c) n xs) (hg : g < B) : ∀ ad, A = some ad → 0 < n → ad.block ≠ g := by
  intro ad hA h0
  have hk : (Value.slice A m c).ownBlock = some ad.block := by
    rcases h.2 with ⟨h1, h2⟩ | ⟨k, cap, cur, h1, h2, _⟩
    · omega
    · injection h1 with e1 e2 e3
      rw [hA] at e1
      injection e1 with e1
      subst e1
      rw [hA]
      rfl
  have := (h.lt _ hk).1
  omega
theorem Off.far {w : World} {B g n c : Nat} {A : Option Addr} {G : List Gn} (h : NO w B A n c G) (hg : g < B) : Off g A n G :=
  ⟨own_far h.row hg, fun x hx => own_far (h.mem x hx) hg⟩
theorem Off.new {w : World} {A : Option Addr} {n : Nat} {G : List Gn} (h : NW w A n G) : Off w.heap.size A n G :=
  ⟨fun ad hA h0 => by
    obtain ⟨ad', e, hb, _⟩ := h.row.2 h0
    rw [hA] at e
    injection e with e
    subst e
    omega, fun x hx ad hA h0 => by
    obtain ⟨ad', e, hb, _⟩ := (h.each x hx).1.row.2 h0
    rw [hA] at e
    injection e with e
    subst e
    omega⟩
theorem reads_off {w : World} {k n g : Nat} {A : Option Addr} {xs : List Value} (h : Reads w w.heap.size k A n xs) (hx : ∀ ad, A = some ad → 0 < n → ad.block ≠ g) (u : Value) : Reads (w.setCell ⟨g, 0, none⟩ u) (w.setCell ⟨g, 0, none⟩ u).heap.size k A n xs := by
  refine ⟨h.1, fun h0 => ?_⟩
  obtain ⟨ad, e, hb, hc⟩ := h.2 h0
  refine ⟨ad, e, by simpa [World.setCell] using hb, fun j v hv => ?_⟩
  refine (World.cell?_setCell_other w ⟨g, 0, none⟩ _ u (fun he => ?_)).trans (hc j v hv)
  have h1 := congrArg Addr.block he
  rw [block_of_add] at h1
  first | exact hx ad e h0 h1 | exact hx ad e h0 h1.symm
theorem NW.set {w : World} {A : Option Addr} {n g : Nat} {G : List Gn} (h : NW w A n G) (hx : Off g A n G) (u : Value) : NW (w.setCell ⟨g, 0, none⟩ u) A n G :=
  ⟨reads_off h.row hx.row u, h.small, fun x hm => ⟨⟨reads_off (h.each x hm).1.row (hx.mem x hm) u, (h.each x hm).1.small⟩, (h.each x hm).2⟩⟩
theorem ir_none {w : World} : IR w none 0 [] := ⟨⟨rfl, fun h => absurd h (by omega)⟩, by omega⟩
theorem fnd_bad {l : List Gm} {p : Gm → Bool} (h : rightG l = false) : fndV p l = none := by unfold fndV; rw [if_neg (by rw [h]; simp)]
theorem mem_bad {l : List Gm} {v : Int} (h : rightG l = false) : memV l v = [] := by unfold memV; rw [fnd_bad h]
theorem find_gsM (v : Int) : ∀ G : List Gn, (gsM G).find? (isV v) = (G.find? (fun g => g.1 == v)).map gm
  | [] => rfl
  | g :: G => by
    unfold gsM
    rw [List.map_cons, List.find?_cons, List.find?_cons]
    have : isV v (gm g) = (g.1 == v) := rfl
    rw [this]
    cases (g.1 == v)
    · exact find_gsM v G
    · rfl
theorem dget_reads {w : World} {A : Option Addr} {n : Nat} {G : List Gn} (h : NW w A n G) (hr : rightG (gsM G) = true) (v : Int) : ∃ (A' : Option Addr) (n' c' : Nat) (is : List Int), dgetV G v = .slice A' n' c' ∧ IR w A' n' is ∧ memV (gsM G) v = is := by
  unfold dgetV memV fndV
  rw [if_pos hr, find_gsM]
  cases hf : G.find? (fun g => g.1 == v) with
  | none => exact ⟨none, 0, 0, [], rfl, ir_none, rfl⟩
  | some g => exact ⟨g.2.1, g.2.2.1, g.2.2.2.1, g.2.2.2.2, rfl, (h.each g (List.mem_of_find?_eq_some hf)).1, rfl⟩
theorem rows_len {GR : List Gg} {G : List Gn} {nR n : Nat} (h1 : GR.length = nR) (h2 : gsI GR = rowsL (gsM G)) (hr : rightG (gsM G) = true) (hn : G.length = n) : nR = n := by
  have := congrArg List.length h2
  rw [gsI_len] at this
  unfold rowsL at this
  rw [if_pos hr, List.length_map, gsM_len] at this
  omega
theorem rows_none {GR : List Gg} {G : List Gn} {nR : Nat} (h1 : GR.length = nR) (h2 : gsI GR = rowsL (gsM G)) (hr : rightG (gsM G) = false) : nR = 0 := by
  have := congrArg List.length h2
  rw [gsI_len] at this
  unfold rowsL at this
  rw [if_neg (by rw [hr]; simp)] at this
  simp at this
  rw [← h1, this]
  rfl
theorem rows_same {GR : List Gg} {G : List Gn} (h2 : gsI GR = rowsL (gsM G)) (hr : rightG (gsM G) = true) (q : Nat) (x : Gg) (y : Gn) (hx : GR[q]? = some x) (hy : G[q]? = some y) : x.2.2.2 = y.2.2.2.2 := by
  have e1 := gsI_at hx
  rw [h2] at e1
  unfold rowsL at e1
  rw [if_pos hr, List.getElem?_map, gsM_at hy] at e1
  injection e1 with e1
  exact e1.symm
theorem gw_rows {w : World} {B n c : Nat} {A : Option Addr} {G : List Gg} (h : GO w B A n c G) (hn : n ≤ 100) (hm : ∀ g ∈ G, g.2.1 ≤ 100) : GW w A n G :=
  ⟨Reads.of_own h.row, by omega, fun g hg => ⟨⟨Reads.of_own (h.mem g hg), by have := hm g hg; omega⟩, by have := hm g hg; omega⟩⟩
theorem ints_at {w : World} {A : Option Addr} {n : Nat} {l : List Int} (h : Reads w w.heap.size 1 A n (vs l)) {j : Nat} {x : Int} (hx : l[j]? = some x) : ∃ ad, A = some ad ∧ w.cell? (ad.add j) = some (.int .i64 x) := reads_int h hx

set_option maxRecDepth 100000 in
set_option maxHeartbeats 32000000 in
theorem tells_walk (A : Option Addr) (n c : Nat) (ls : List Gz) (A' : Option Addr) (n' c' : Nat) (cs : List Int) (w : World) (hA : LA w A n ls) (hR' : Reads w w.heap.size 1 A' n' (vs cs)) :
    Calls Try.prog 4 #[.slice A n c, .slice A' n' c'] w (Said (.bool true) w) := by
  have HK := Lib.hid (wakes_any w)
  have HR := Lib.hid hA
  have HR' : Hid (∀ u, Below w.heap.size w u → Reads u u.heap.size 1 A' n' (vs cs)) := Lib.hid (fun u h => (hR'.below h).more h.size)
  have HLC : Hid (cs.length = n') := Lib.hid (by have := hR'.1; rw [length_vs] at this; omega)
  have HL := Lib.hid hA.len
  clear hA hR'
  go_enter Try.func4, Try.ntmps4
  go_wp2_with fail
  refine HK.out.mono ?_
  rintro e w1 ⟨rfl, h1⟩
  go_wp2_with fail
  go_loopw [23] (fun i wr => ∃ k : Nat, k ≤ n ∧ k ≤ 8 ∧ i = .int .i64 (k : Int) ∧ Below w.heap.size w wr) (fun i _ => n - (intOf i).toNat)
  case atStart => exact ⟨0, by omega, by omega, rfl, h1⟩
  case round =>
    clear h1
    obtain ⟨k, hk, hk8, rfl, hB⟩ := hrel
    by_cases hlt : k < n
    · obtain ⟨⟨Ax, nx, cx, gx⟩, hx⟩ := elem_at (l := ls) (k := k) (by rw [HL.out]; exact hlt)
      obtain ⟨ad, rfl, hadb, hc⟩ := (HR.out.below hB).at_ hx
      have hxo := HR.out.mem _ (List.mem_of_getElem? hx)
      have j0 : (0 : Int) ≤ (k : Int) := by omega
      have j1 : (k : Int) < (n : Int) := by omega
      have l1 : decide ((k : Int) < (n : Int)) = true := decide_eq_true j1
      have n0 : 0 < n := by omega
      have hsz := hB.size
      clear hx
      by_cases h8 : k = 8
      · have g8 : ((k : Int) == 8) = true := by simp; omega
        have hB2 := hB.alloc hsz (.cells #[.slice Ax nx cx] 24)
        clear h8 hk8 hxo hB
        go_wp2
        go_ret
        exact ⟨rfl, hB2⟩
      · have g8 : ((k : Int) == 8) = false := by simp; omega
        have HJ := Lib.hid (show k + 1 ≤ n ∧ k + 1 ≤ 8 by omega)
        have j9 : k < 100 := by omega
        obtain ⟨⟨Ay, ny, cy, gy⟩, hs0⟩ := elem_at (l := ls) (k := 0) (by rw [HL.out]; exact n0)
        obtain ⟨ad0, e0, had0, hc0⟩ := HR.out.at_ hs0
        obtain rfl := Option.some.inj e0
        have hyo := HR.out.mem _ (List.mem_of_getElem? hs0)
        have HY : Hid (∀ u, Below w.heap.size w u → u.cell? ad = some (.slice Ay ny cy)) := Lib.hid (fun u hb => (hb.cell (p := ad) had0).trans (by have q := hc0; rwa [show ad.add 0 = ad by simp [Addr.add]] at q))
        have n1i : (0 : Int) < (n : Int) := by omega
        have HS1 : Hid (∀ u, Below w.heap.size w u → Calls Try.prog 10 #[.agg #[.slice Ax nx cx]] u (ShortSaid gx u)) := Lib.hid (fun u hb => short_any Ax nx cx gx u (hxo.below hb))
        have HS2 : Hid (∀ u, Below w.heap.size w u → Calls Try.prog 10 #[.agg #[.slice Ay ny cy]] u (ShortSaid gy u)) := Lib.hid (fun u hb => short_any Ay ny cy gy u (hyo.below hb))
        have KB := Blk.new wr 24 #[.slice Ax nx cx]
        have GB := hB.alloc hsz (.cells #[.slice Ax nx cx] 24)
        clear h8 hk8 hxo hyo hs0 hc0 e0 hB hadb
        go_upto_region 7 with fail
        generalize wr.alloc (.cells #[.slice Ax nx cx] 24) = W0 at KB GB ⊢
        generalize wr.heap.size = g6 at KB hsz ⊢
        replace KB : Blk W0.drew _ _ _ := KB
        replace GB := GB.drew
        clear hc
        go_cut [7, 8] (fun s7 s8 X => ∃ (g7 g8 : Nat) (A1 : Option Addr) (n1 c1 : Nat) (G1 : List Gn) (A2 : Option Addr) (n2 c2 : Nat) (G2 : List Gn), s7 = .pointer (some ⟨g7, 0, none⟩) ∧ s8 = .pointer (some ⟨g8, 0, none⟩) ∧
          Blk X g7 24 #[.slice A1 n1 c1] ∧ Blk X g8 24 #[.slice A2 n2 c2] ∧ NW X A1 n1 G1 ∧ NW X A2 n2 G2 ∧ Hid (gsM G1 = shortL (gsM gx) ∧ n1 ≤ c1) ∧ Hid (gsM G2 = shortL (gsM gy) ∧ n2 ≤ c2) ∧ Blk X g6 24 #[.slice Ax nx cx] ∧ Below w.heap.size w X)
        case first =>
          as_aux_lemma =>
            refine wp_region_held_drew (S := fun W => Blk W g6 24 #[.slice Ax nx cx] ∧ Below w.heap.size w W) (by kernel_rfl) ⟨KB, GB⟩ (fun hS => ?_)
            generalize W0.drew = V at KB GB hS ⊢
            refine wpAnyH_take (i := 0) (v := .agg #[.slice Ax nx cx]) rfl (by kernel_rfl) (by kernel_rfl) (by kernel_rfl) (fun _ _ _ h => h) (Or.inl ⟨by rfl, fun u hSw => (by have c0 : u.cell? ⟨g6, 0, none⟩ = some (.slice Ax nx cx) := hSw.1.cell 0; go_simp)⟩) hS ?_
            change wpAnyH _ _ _ _ _ _ _ (Act.put _ (some 30) _) _
            simp only [Act.put]
            refine wpAnyH_take (i := 2) (v := .slice (some ad) n c) rfl (by kernel_rfl) (by kernel_rfl) (by kernel_rfl) (fun _ _ _ h => h) (Or.inl ⟨by rfl, fun u hSw => (by go_simp)⟩) hS ?_
            change wpAnyH _ _ _ _ _ _ _ (Act.put _ (some 32) _) _
            simp only [Act.put]
            refine wpAnyH_take (i := 3) (v := .pointer (some ad)) rfl (by kernel_rfl) (by kernel_rfl) (by kernel_rfl) (fun _ _ _ h => h) (Or.inl ⟨by rfl, fun u hSw => (by go_simp)⟩) hS ?_
            change wpAnyH _ _ _ _ _ _ _ (Act.put _ (some 33) _) _
            simp only [Act.put]
            refine wpAnyH_take (i := 4) (v := .agg #[.slice Ay ny cy]) rfl (by kernel_rfl) (by kernel_rfl) (by kernel_rfl) (fun _ _ _ h => h) (Or.inl ⟨by rfl, fun u hSw => (by have c0 := HY.out u hSw.2; go_simp)⟩) hS ?_
            change wpAnyH _ _ _ _ _ _ _ (Act.put _ (some 34) _) _
            simp only [Act.put]
            refine wpAnyH_ready (rs := [1, 6, 7]) (by kernel_rfl) (by simp) ?_
            refine AllReadyH.cons rfl (fun K hK => ?_) (AllReadyH.cons rfl (fun K hK => ?_) (AllReadyH.cons rfl (fun K hK => ?_) (AllReadyH.nil)))
            · skip
              go_simp
              refine (HS1.out _ GB).mono ?_
              rintro e w1 ⟨A1, n1, c1, G1_, rfl, O1, E1, hn1, hm1, h1⟩
              replace KB := KB.below h1 KB.lt
              have hA1 := short_nw O1 hn1 hm1
              have HE1 := Lib.hid (And.intro E1 (own_nc O1.row))
              replace GB := GB.trans (h1.mono GB.size)
              clear h1 O1 E1 hn1 hm1
              refine hK.out _ _ ⟨KB, GB⟩ (fun hS => ?_)
              clear hK K
              refine wpAnyH_ready (rs := [5, 6, 7]) (by kernel_rfl) (by simp) ?_
              refine AllReadyH.cons rfl (fun K hK => ?_) (AllReadyH.cons rfl (fun K hK => ?_) (AllReadyH.cons rfl (fun K hK => ?_) (AllReadyH.nil)))
              · skip
                go_simp
                refine (HS2.out _ GB).mono ?_
                rintro e w2 ⟨A2, n2, c2, G2_, rfl, O2, E2, hn2, hm2, h2⟩
                replace KB := KB.below h2 KB.lt
                replace hA1 := hA1.below h2
                have hA2 := short_nw O2 hn2 hm2
                have HE2 := Lib.hid (And.intro E2 (own_nc O2.row))
                replace GB := GB.trans (h2.mono GB.size)
                clear h2 O2 E2 hn2 hm2
                refine hK.out _ _ ⟨KB, GB⟩ (fun hS => ?_)
                clear hK K
                refine wpAnyH_ready (rs := [6, 7]) (by kernel_rfl) (by simp) ?_
                refine AllReadyH.cons rfl (fun K hK => ?_) (AllReadyH.cons rfl (fun K hK => ?_) (AllReadyH.nil))
                · skip
                  go_simp
                  have F7 := Blk.new w2 24 #[.slice none 0 0]
                  have lk7 := KB.lt
                  have lb7 := GB.size
                  have x1_7 := Off.new hA1
                  have x2_7 := Off.new hA2
                  replace KB := KB.alloc (.cells #[.slice none 0 0] 24)
                  replace hA1 := hA1.below ((Below.refl _ _).alloc (Nat.le_refl _) (.cells #[.slice none 0 0] 24))
                  replace hA2 := hA2.below ((Below.refl _ _).alloc (Nat.le_refl _) (.cells #[.slice none 0 0] 24))
                  replace GB := GB.alloc GB.size (.cells #[.slice none 0 0] 24)
                  refine hK.out _ _ ⟨KB, GB⟩ (fun hS => ?_)
                  clear hK K
                  generalize w2.alloc (.cells #[.slice none 0 0] 24) = U3 at KB GB hS F7 hA1 hA2 ⊢
                  generalize w2.heap.size = g7 at F7 lk7 lb7 x1_7 x2_7 ⊢
                  refine wpAnyH_ready (rs := [7]) (by kernel_rfl) (by simp) ?_
                  refine AllReadyH.cons rfl (fun K hK => ?_) (AllReadyH.nil)
                  go_simp
                  have F8 := Blk.new U3 24 #[.slice none 0 0]
                  have lk8 := KB.lt
                  have lb8 := GB.size
                  have l78 := F7.lt
                  have x1_8 := Off.new hA1
                  have x2_8 := Off.new hA2
                  replace KB := KB.alloc (.cells #[.slice none 0 0] 24)
                  replace F7 := F7.alloc (.cells #[.slice none 0 0] 24)
                  replace hA1 := hA1.below ((Below.refl _ _).alloc (Nat.le_refl _) (.cells #[.slice none 0 0] 24))
                  replace hA2 := hA2.below ((Below.refl _ _).alloc (Nat.le_refl _) (.cells #[.slice none 0 0] 24))
                  replace GB := GB.alloc GB.size (.cells #[.slice none 0 0] 24)
                  refine hK.out _ _ ⟨KB, GB⟩ (fun hS => ?_)
                  clear hK K
                  generalize U3.alloc (.cells #[.slice none 0 0] 24) = U4 at KB GB hS F8 F7 hA1 hA2 ⊢
                  generalize U3.heap.size = g8 at F8 lk8 lb8 l78 x1_8 x2_8 ⊢
                  refine wpAnyH_ready (rs := [8]) (by kernel_rfl) (by simp) ?_
                  refine AllReadyH.cons rfl (fun K hK => ?_) (AllReadyH.nil)
                  have d0 := F7.cell 0
                  have f0 := F7.frozen 0
                  have KB2 := KB.far (p := ⟨g7, 0, none⟩) (by simp; omega) (.slice A1 n1 c1)
                  have GB2 := GB.setCell (p := ⟨g7, 0, none⟩) (by simp; omega) (.slice A1 n1 c1)
                  have G7 := (put1 (x := (.slice A1 n1 c1)) F7 GB (by omega)).1
                  have G8 := F8.far (p := ⟨g7, 0, none⟩) (by simp; omega) (.slice A1 n1 c1)
                  have hB1 := hA1.set x1_7 (.slice A1 n1 c1)
                  have hB2 := hA2.set x2_7 (.slice A1 n1 c1)
                  clear KB GB F7 F8 hA1 hA2 hS
                  go_simp
                  refine hK.out _ _ ⟨KB2, GB2⟩ (fun hS => ?_)
                  clear hK K d0 f0
                  generalize U4.setCell ⟨g7, 0, none⟩ (.slice A1 n1 c1) = U5 at KB2 GB2 hS G7 G8 hB1 hB2 ⊢
                  have KB := KB2
                  have GB := GB2
                  have F7 := G7
                  have F8 := G8
                  have hA1 := hB1
                  have hA2 := hB2
                  clear KB2 GB2 G7 G8 hB1 hB2
                  refine wpAnyH_ready (rs := [9]) (by kernel_rfl) (by simp) ?_
                  refine AllReadyH.cons rfl (fun K hK => ?_) (AllReadyH.nil)
                  have d0 := F8.cell 0
                  have f0 := F8.frozen 0
                  have KB2 := KB.far (p := ⟨g8, 0, none⟩) (by simp; omega) (.slice A2 n2 c2)
                  have GB2 := GB.setCell (p := ⟨g8, 0, none⟩) (by simp; omega) (.slice A2 n2 c2)
                  have G8 := (put1 (x := (.slice A2 n2 c2)) F8 GB (by omega)).1
                  have G7 := F7.far (p := ⟨g8, 0, none⟩) (by simp; omega) (.slice A2 n2 c2)
                  have hB1 := hA1.set x1_8 (.slice A2 n2 c2)
                  have hB2 := hA2.set x2_8 (.slice A2 n2 c2)
                  clear KB GB F8 F7 hA1 hA2 hS
                  go_simp
                  refine hK.out _ _ ⟨KB2, GB2⟩ (fun hS => ?_)
                  clear hK K d0 f0
                  generalize U5.setCell ⟨g8, 0, none⟩ (.slice A2 n2 c2) = U6 at KB2 GB2 hS G7 G8 hB1 hB2 ⊢
                  have KB := KB2
                  have GB := GB2
                  have F7 := G7
                  have F8 := G8
                  have hA1 := hB1
                  have hA2 := hB2
                  clear KB2 GB2 G7 G8 hB1 hB2
                  refine wpAnyH_done (by kernel_rfl) ?_ _
                  go_wp2_with fail
                  go_meet
                  exact ⟨g7, g8, A1, n1, c1, G1_, A2, n2, c2, G2_, rfl, rfl, F7, F8, hA1, hA2, HE1, HE2, KB, GB⟩
                · skip
                  go_simp
                  have F8 := Blk.new w2 24 #[.slice none 0 0]
                  have lk8 := KB.lt
                  have lb8 := GB.size
                  have x1_8 := Off.new hA1
                  have x2_8 := Off.new hA2
                  replace KB := KB.alloc (.cells #[.slice none 0 0] 24)
                  replace hA1 := hA1.below ((Below.refl _ _).alloc (Nat.le_refl _) (.cells #[.slice none 0 0] 24))
                  replace hA2 := hA2.below ((Below.refl _ _).alloc (Nat.le_refl _) (.cells #[.slice none 0 0] 24))
                  replace GB := GB.alloc GB.size (.cells #[.slice none 0 0] 24)
                  refine hK.out _ _ ⟨KB, GB⟩ (fun hS => ?_)
                  clear hK K
                  generalize w2.alloc (.cells #[.slice none 0 0] 24) = U7 at KB GB hS F8 hA1 hA2 ⊢
                  generalize w2.heap.size = g8 at F8 lk8 lb8 x1_8 x2_8 ⊢
                  refine wpAnyH_ready (rs := [6]) (by kernel_rfl) (by simp) ?_
                  refine AllReadyH.cons rfl (fun K hK => ?_) (AllReadyH.nil)
                  go_simp
                  have F7 := Blk.new U7 24 #[.slice none 0 0]
                  have lk7 := KB.lt
                  have lb7 := GB.size
                  have l87 := F8.lt
                  have x1_7 := Off.new hA1
                  have x2_7 := Off.new hA2
                  replace KB := KB.alloc (.cells #[.slice none 0 0] 24)
                  replace F8 := F8.alloc (.cells #[.slice none 0 0] 24)
                  replace hA1 := hA1.below ((Below.refl _ _).alloc (Nat.le_refl _) (.cells #[.slice none 0 0] 24))
                  replace hA2 := hA2.below ((Below.refl _ _).alloc (Nat.le_refl _) (.cells #[.slice none 0 0] 24))
                  replace GB := GB.alloc GB.size (.cells #[.slice none 0 0] 24)
                  refine hK.out _ _ ⟨KB, GB⟩ (fun hS => ?_)
                  clear hK K
                  generalize U7.alloc (.cells #[.slice none 0 0] 24) = U8 at KB GB hS F7 F8 hA1 hA2 ⊢
                  generalize U7.heap.size = g7 at F7 lk7 lb7 l87 x1_7 x2_7 ⊢
                  refine wpAnyH_ready (rs := [8]) (by kernel_rfl) (by simp) ?_
                  refine AllReadyH.cons rfl (fun K hK => ?_) (AllReadyH.nil)
                  have d0 := F7.cell 0
                  have f0 := F7.frozen 0
                  have KB2 := KB.far (p := ⟨g7, 0, none⟩) (by simp; omega) (.slice A1 n1 c1)
                  have GB2 := GB.setCell (p := ⟨g7, 0, none⟩) (by simp; omega) (.slice A1 n1 c1)
                  have G7 := (put1 (x := (.slice A1 n1 c1)) F7 GB (by omega)).1
                  have G8 := F8.far (p := ⟨g7, 0, none⟩) (by simp; omega) (.slice A1 n1 c1)
                  have hB1 := hA1.set x1_7 (.slice A1 n1 c1)
                  have hB2 := hA2.set x2_7 (.slice A1 n1 c1)
                  clear KB GB F7 F8 hA1 hA2 hS
                  go_simp
                  refine hK.out _ _ ⟨KB2, GB2⟩ (fun hS => ?_)
                  clear hK K d0 f0
                  generalize U8.setCell ⟨g7, 0, none⟩ (.slice A1 n1 c1) = U9 at KB2 GB2 hS G7 G8 hB1 hB2 ⊢
                  have KB := KB2
                  have GB := GB2
                  have F7 := G7
                  have F8 := G8
                  have hA1 := hB1
                  have hA2 := hB2
                  clear KB2 GB2 G7 G8 hB1 hB2
                  refine wpAnyH_ready (rs := [9]) (by kernel_rfl) (by simp) ?_
                  refine AllReadyH.cons rfl (fun K hK => ?_) (AllReadyH.nil)
                  have d0 := F8.cell 0
                  have f0 := F8.frozen 0
                  have KB2 := KB.far (p := ⟨g8, 0, none⟩) (by simp; omega) (.slice A2 n2 c2)
                  have GB2 := GB.setCell (p := ⟨g8, 0, none⟩) (by simp; omega) (.slice A2 n2 c2)
                  have G8 := (put1 (x := (.slice A2 n2 c2)) F8 GB (by omega)).1
                  have G7 := F7.far (p := ⟨g8, 0, none⟩) (by simp; omega) (.slice A2 n2 c2)
                  have hB1 := hA1.set x1_8 (.slice A2 n2 c2)
                  have hB2 := hA2.set x2_8 (.slice A2 n2 c2)
                  clear KB GB F8 F7 hA1 hA2 hS
                  go_simp
                  refine hK.out _ _ ⟨KB2, GB2⟩ (fun hS => ?_)
                  clear hK K d0 f0
                  generalize U9.setCell ⟨g8, 0, none⟩ (.slice A2 n2 c2) = U10 at KB2 GB2 hS G7 G8 hB1 hB2 ⊢
                  have KB := KB2
                  have GB := GB2
                  have F7 := G7
                  have F8 := G8
                  have hA1 := hB1
                  have hA2 := hB2
                  clear KB2 GB2 G7 G8 hB1 hB2
                  refine wpAnyH_done (by kernel_rfl) ?_ _
                  go_wp2_with fail
                  go_meet
                  exact ⟨g7, g8, A1, n1, c1, G1_, A2, n2, c2, G2_, rfl, rfl, F7, F8, hA1, hA2, HE1, HE2, KB, GB⟩
              · skip
                go_simp
                have F7 := Blk.new w1 24 #[.slice none 0 0]
                have lk7 := KB.lt
                have lb7 := GB.size
                have x1_7 := Off.new hA1
                replace KB := KB.alloc (.cells #[.slice none 0 0] 24)
                replace hA1 := hA1.below ((Below.refl _ _).alloc (Nat.le_refl _) (.cells #[.slice none 0 0] 24))
                replace GB := GB.alloc GB.size (.cells #[.slice none 0 0] 24)
                refine hK.out _ _ ⟨KB, GB⟩ (fun hS => ?_)
                clear hK K
                generalize w1.alloc (.cells #[.slice none 0 0] 24) = U11 at KB GB hS F7 hA1 ⊢
                generalize w1.heap.size = g7 at F7 lk7 lb7 x1_7 ⊢
                refine wpAnyH_ready (rs := [5, 7]) (by kernel_rfl) (by simp) ?_
                refine AllReadyH.cons rfl (fun K hK => ?_) (AllReadyH.cons rfl (fun K hK => ?_) (AllReadyH.nil))
                · skip
                  go_simp
                  refine (HS2.out _ GB).mono ?_
                  rintro e w12 ⟨A2, n2, c2, G2_, rfl, O2, E2, hn2, hm2, h12⟩
                  have x2_7 := Off.far O2 F7.lt
                  replace KB := KB.below h12 KB.lt
                  replace F7 := F7.below h12 F7.lt
                  replace hA1 := hA1.below h12
                  have hA2 := short_nw O2 hn2 hm2
                  have HE2 := Lib.hid (And.intro E2 (own_nc O2.row))
                  replace GB := GB.trans (h12.mono GB.size)
                  clear h12 O2 E2 hn2 hm2
                  refine hK.out _ _ ⟨KB, GB⟩ (fun hS => ?_)
                  clear hK K
                  refine wpAnyH_ready (rs := [7]) (by kernel_rfl) (by simp) ?_
                  refine AllReadyH.cons rfl (fun K hK => ?_) (AllReadyH.nil)
                  go_simp
                  have F8 := Blk.new w12 24 #[.slice none 0 0]
                  have lk8 := KB.lt
                  have lb8 := GB.size
                  have l78 := F7.lt
                  have x1_8 := Off.new hA1
                  have x2_8 := Off.new hA2
                  replace KB := KB.alloc (.cells #[.slice none 0 0] 24)
                  replace F7 := F7.alloc (.cells #[.slice none 0 0] 24)
                  replace hA1 := hA1.below ((Below.refl _ _).alloc (Nat.le_refl _) (.cells #[.slice none 0 0] 24))
                  replace hA2 := hA2.below ((Below.refl _ _).alloc (Nat.le_refl _) (.cells #[.slice none 0 0] 24))
                  replace GB := GB.alloc GB.size (.cells #[.slice none 0 0] 24)
                  refine hK.out _ _ ⟨KB, GB⟩ (fun hS => ?_)
                  clear hK K
                  generalize w12.alloc (.cells #[.slice none 0 0] 24) = U13 at KB GB hS F8 F7 hA1 hA2 ⊢
                  generalize w12.heap.size = g8 at F8 lk8 lb8 l78 x1_8 x2_8 ⊢
                  refine wpAnyH_ready (rs := [8]) (by kernel_rfl) (by simp) ?_
                  refine AllReadyH.cons rfl (fun K hK => ?_) (AllReadyH.nil)
                  have d0 := F7.cell 0
                  have f0 := F7.frozen 0
                  have KB2 := KB.far (p := ⟨g7, 0, none⟩) (by simp; omega) (.slice A1 n1 c1)
                  have GB2 := GB.setCell (p := ⟨g7, 0, none⟩) (by simp; omega) (.slice A1 n1 c1)
                  have G7 := (put1 (x := (.slice A1 n1 c1)) F7 GB (by omega)).1
                  have G8 := F8.far (p := ⟨g7, 0, none⟩) (by simp; omega) (.slice A1 n1 c1)
                  have hB1 := hA1.set x1_7 (.slice A1 n1 c1)
                  have hB2 := hA2.set x2_7 (.slice A1 n1 c1)
                  clear KB GB F7 F8 hA1 hA2 hS
                  go_simp
                  refine hK.out _ _ ⟨KB2, GB2⟩ (fun hS => ?_)
                  clear hK K d0 f0
                  generalize U13.setCell ⟨g7, 0, none⟩ (.slice A1 n1 c1) = U14 at KB2 GB2 hS G7 G8 hB1 hB2 ⊢
                  have KB := KB2
                  have GB := GB2
                  have F7 := G7
                  have F8 := G8
                  have hA1 := hB1
                  have hA2 := hB2
                  clear KB2 GB2 G7 G8 hB1 hB2
                  refine wpAnyH_ready (rs := [9]) (by kernel_rfl) (by simp) ?_
                  refine AllReadyH.cons rfl (fun K hK => ?_) (AllReadyH.nil)
                  have d0 := F8.cell 0
                  have f0 := F8.frozen 0
                  have KB2 := KB.far (p := ⟨g8, 0, none⟩) (by simp; omega) (.slice A2 n2 c2)
                  have GB2 := GB.setCell (p := ⟨g8, 0, none⟩) (by simp; omega) (.slice A2 n2 c2)
                  have G8 := (put1 (x := (.slice A2 n2 c2)) F8 GB (by omega)).1
                  have G7 := F7.far (p := ⟨g8, 0, none⟩) (by simp; omega) (.slice A2 n2 c2)
                  have hB1 := hA1.set x1_8 (.slice A2 n2 c2)
                  have hB2 := hA2.set x2_8 (.slice A2 n2 c2)
                  clear KB GB F8 F7 hA1 hA2 hS
                  go_simp
                  refine hK.out _ _ ⟨KB2, GB2⟩ (fun hS => ?_)
                  clear hK K d0 f0
                  generalize U14.setCell ⟨g8, 0, none⟩ (.slice A2 n2 c2) = U15 at KB2 GB2 hS G7 G8 hB1 hB2 ⊢
                  have KB := KB2
                  have GB := GB2
                  have F7 := G7
                  have F8 := G8
                  have hA1 := hB1
                  have hA2 := hB2
                  clear KB2 GB2 G7 G8 hB1 hB2
                  refine wpAnyH_done (by kernel_rfl) ?_ _
                  go_wp2_with fail
                  go_meet
                  exact ⟨g7, g8, A1, n1, c1, G1_, A2, n2, c2, G2_, rfl, rfl, F7, F8, hA1, hA2, HE1, HE2, KB, GB⟩
                · skip
                  go_simp
                  have F8 := Blk.new U11 24 #[.slice none 0 0]
                  have lk8 := KB.lt
                  have lb8 := GB.size
                  have l78 := F7.lt
                  have x1_8 := Off.new hA1
                  replace KB := KB.alloc (.cells #[.slice none 0 0] 24)
                  replace F7 := F7.alloc (.cells #[.slice none 0 0] 24)
                  replace hA1 := hA1.below ((Below.refl _ _).alloc (Nat.le_refl _) (.cells #[.slice none 0 0] 24))
                  replace GB := GB.alloc GB.size (.cells #[.slice none 0 0] 24)
                  refine hK.out _ _ ⟨KB, GB⟩ (fun hS => ?_)
                  clear hK K
                  generalize U11.alloc (.cells #[.slice none 0 0] 24) = U16 at KB GB hS F8 F7 hA1 ⊢
                  generalize U11.heap.size = g8 at F8 lk8 lb8 l78 x1_8 ⊢
                  refine wpAnyH_ready (rs := [5]) (by kernel_rfl) (by simp) ?_
                  refine AllReadyH.cons rfl (fun K hK => ?_) (AllReadyH.nil)
                  go_simp
                  refine (HS2.out _ GB).mono ?_
                  rintro e w17 ⟨A2, n2, c2, G2_, rfl, O2, E2, hn2, hm2, h17⟩
                  have x2_7 := Off.far O2 F7.lt
                  have x2_8 := Off.far O2 F8.lt
                  replace KB := KB.below h17 KB.lt
                  replace F7 := F7.below h17 F7.lt
                  replace F8 := F8.below h17 F8.lt
                  replace hA1 := hA1.below h17
                  have hA2 := short_nw O2 hn2 hm2
                  have HE2 := Lib.hid (And.intro E2 (own_nc O2.row))
                  replace GB := GB.trans (h17.mono GB.size)
                  clear h17 O2 E2 hn2 hm2
                  refine hK.out _ _ ⟨KB, GB⟩ (fun hS => ?_)
                  clear hK K
                  refine wpAnyH_ready (rs := [8]) (by kernel_rfl) (by simp) ?_
                  refine AllReadyH.cons rfl (fun K hK => ?_) (AllReadyH.nil)
                  have d0 := F7.cell 0
                  have f0 := F7.frozen 0
                  have KB2 := KB.far (p := ⟨g7, 0, none⟩) (by simp; omega) (.slice A1 n1 c1)
                  have GB2 := GB.setCell (p := ⟨g7, 0, none⟩) (by simp; omega) (.slice A1 n1 c1)
                  have G7 := (put1 (x := (.slice A1 n1 c1)) F7 GB (by omega)).1
                  have G8 := F8.far (p := ⟨g7, 0, none⟩) (by simp; omega) (.slice A1 n1 c1)
                  have hB1 := hA1.set x1_7 (.slice A1 n1 c1)
                  have hB2 := hA2.set x2_7 (.slice A1 n1 c1)
                  clear KB GB F7 F8 hA1 hA2 hS
                  go_simp
                  refine hK.out _ _ ⟨KB2, GB2⟩ (fun hS => ?_)
                  clear hK K d0 f0
                  generalize w17.setCell ⟨g7, 0, none⟩ (.slice A1 n1 c1) = U18 at KB2 GB2 hS G7 G8 hB1 hB2 ⊢
                  have KB := KB2
                  have GB := GB2
                  have F7 := G7
                  have F8 := G8
                  have hA1 := hB1
                  have hA2 := hB2
                  clear KB2 GB2 G7 G8 hB1 hB2
                  refine wpAnyH_ready (rs := [9]) (by kernel_rfl) (by simp) ?_
                  refine AllReadyH.cons rfl (fun K hK => ?_) (AllReadyH.nil)
                  have d0 := F8.cell 0
                  have f0 := F8.frozen 0
                  have KB2 := KB.far (p := ⟨g8, 0, none⟩) (by simp; omega) (.slice A2 n2 c2)
                  have GB2 := GB.setCell (p := ⟨g8, 0, none⟩) (by simp; omega) (.slice A2 n2 c2)
                  have G8 := (put1 (x := (.slice A2 n2 c2)) F8 GB (by omega)).1
                  have G7 := F7.far (p := ⟨g8, 0, none⟩) (by simp; omega) (.slice A2 n2 c2)
                  have hB1 := hA1.set x1_8 (.slice A2 n2 c2)
                  have hB2 := hA2.set x2_8 (.slice A2 n2 c2)
                  clear KB GB F8 F7 hA1 hA2 hS
                  go_simp
                  refine hK.out _ _ ⟨KB2, GB2⟩ (fun hS => ?_)
                  clear hK K d0 f0
                  generalize U18.setCell ⟨g8, 0, none⟩ (.slice A2 n2 c2) = U19 at KB2 GB2 hS G7 G8 hB1 hB2 ⊢
                  have KB := KB2
                  have GB := GB2
                  have F7 := G7
                  have F8 := G8
                  have hA1 := hB1
                  have hA2 := hB2
                  clear KB2 GB2 G7 G8 hB1 hB2
                  refine wpAnyH_done (by kernel_rfl) ?_ _
                  go_wp2_with fail
                  go_meet
                  exact ⟨g7, g8, A1, n1, c1, G1_, A2, n2, c2, G2_, rfl, rfl, F7, F8, hA1, hA2, HE1, HE2, KB, GB⟩
              · skip
                go_simp
                have F8 := Blk.new w1 24 #[.slice none 0 0]
                have lk8 := KB.lt
                have lb8 := GB.size
                have x1_8 := Off.new hA1
                replace KB := KB.alloc (.cells #[.slice none 0 0] 24)
                replace hA1 := hA1.below ((Below.refl _ _).alloc (Nat.le_refl _) (.cells #[.slice none 0 0] 24))
                replace GB := GB.alloc GB.size (.cells #[.slice none 0 0] 24)
                refine hK.out _ _ ⟨KB, GB⟩ (fun hS => ?_)
                clear hK K
                generalize w1.alloc (.cells #[.slice none 0 0] 24) = U20 at KB GB hS F8 hA1 ⊢
                generalize w1.heap.size = g8 at F8 lk8 lb8 x1_8 ⊢
                refine wpAnyH_ready (rs := [5, 6]) (by kernel_rfl) (by simp) ?_
                refine AllReadyH.cons rfl (fun K hK => ?_) (AllReadyH.cons rfl (fun K hK => ?_) (AllReadyH.nil))
                · skip
                  go_simp
                  refine (HS2.out _ GB).mono ?_
                  rintro e w21 ⟨A2, n2, c2, G2_, rfl, O2, E2, hn2, hm2, h21⟩
                  have x2_8 := Off.far O2 F8.lt
                  replace KB := KB.below h21 KB.lt
                  replace F8 := F8.below h21 F8.lt
                  replace hA1 := hA1.below h21
                  have hA2 := short_nw O2 hn2 hm2
                  have HE2 := Lib.hid (And.intro E2 (own_nc O2.row))
                  replace GB := GB.trans (h21.mono GB.size)
                  clear h21 O2 E2 hn2 hm2
                  refine hK.out _ _ ⟨KB, GB⟩ (fun hS => ?_)
                  clear hK K
                  refine wpAnyH_ready (rs := [6]) (by kernel_rfl) (by simp) ?_
                  refine AllReadyH.cons rfl (fun K hK => ?_) (AllReadyH.nil)
                  go_simp
                  have F7 := Blk.new w21 24 #[.slice none 0 0]
                  have lk7 := KB.lt
                  have lb7 := GB.size
                  have l87 := F8.lt
                  have x1_7 := Off.new hA1
                  have x2_7 := Off.new hA2
                  replace KB := KB.alloc (.cells #[.slice none 0 0] 24)
                  replace F8 := F8.alloc (.cells #[.slice none 0 0] 24)
                  replace hA1 := hA1.below ((Below.refl _ _).alloc (Nat.le_refl _) (.cells #[.slice none 0 0] 24))
                  replace hA2 := hA2.below ((Below.refl _ _).alloc (Nat.le_refl _) (.cells #[.slice none 0 0] 24))
                  replace GB := GB.alloc GB.size (.cells #[.slice none 0 0] 24)
                  refine hK.out _ _ ⟨KB, GB⟩ (fun hS => ?_)
                  clear hK K
                  generalize w21.alloc (.cells #[.slice none 0 0] 24) = U22 at KB GB hS F7 F8 hA1 hA2 ⊢
                  generalize w21.heap.size = g7 at F7 lk7 lb7 l87 x1_7 x2_7 ⊢
                  refine wpAnyH_ready (rs := [8]) (by kernel_rfl) (by simp) ?_
                  refine AllReadyH.cons rfl (fun K hK => ?_) (AllReadyH.nil)
                  have d0 := F7.cell 0
                  have f0 := F7.frozen 0
                  have KB2 := KB.far (p := ⟨g7, 0, none⟩) (by simp; omega) (.slice A1 n1 c1)
                  have GB2 := GB.setCell (p := ⟨g7, 0, none⟩) (by simp; omega) (.slice A1 n1 c1)
                  have G7 := (put1 (x := (.slice A1 n1 c1)) F7 GB (by omega)).1
                  have G8 := F8.far (p := ⟨g7, 0, none⟩) (by simp; omega) (.slice A1 n1 c1)
                  have hB1 := hA1.set x1_7 (.slice A1 n1 c1)
                  have hB2 := hA2.set x2_7 (.slice A1 n1 c1)
                  clear KB GB F7 F8 hA1 hA2 hS
                  go_simp
                  refine hK.out _ _ ⟨KB2, GB2⟩ (fun hS => ?_)
                  clear hK K d0 f0
                  generalize U22.setCell ⟨g7, 0, none⟩ (.slice A1 n1 c1) = U23 at KB2 GB2 hS G7 G8 hB1 hB2 ⊢
                  have KB := KB2
                  have GB := GB2
                  have F7 := G7
                  have F8 := G8
                  have hA1 := hB1
                  have hA2 := hB2
                  clear KB2 GB2 G7 G8 hB1 hB2
                  refine wpAnyH_ready (rs := [9]) (by kernel_rfl) (by simp) ?_
                  refine AllReadyH.cons rfl (fun K hK => ?_) (AllReadyH.nil)
                  have d0 := F8.cell 0
                  have f0 := F8.frozen 0
                  have KB2 := KB.far (p := ⟨g8, 0, none⟩) (by simp; omega) (.slice A2 n2 c2)
                  have GB2 := GB.setCell (p := ⟨g8, 0, none⟩) (by simp; omega) (.slice A2 n2 c2)
                  have G8 := (put1 (x := (.slice A2 n2 c2)) F8 GB (by omega)).1
                  have G7 := F7.far (p := ⟨g8, 0, none⟩) (by simp; omega) (.slice A2 n2 c2)
                  have hB1 := hA1.set x1_8 (.slice A2 n2 c2)
                  have hB2 := hA2.set x2_8 (.slice A2 n2 c2)
                  clear KB GB F8 F7 hA1 hA2 hS
                  go_simp
                  refine hK.out _ _ ⟨KB2, GB2⟩ (fun hS => ?_)
                  clear hK K d0 f0
                  generalize U23.setCell ⟨g8, 0, none⟩ (.slice A2 n2 c2) = U24 at KB2 GB2 hS G7 G8 hB1 hB2 ⊢
                  have KB := KB2
                  have GB := GB2
                  have F7 := G7
                  have F8 := G8
                  have hA1 := hB1
                  have hA2 := hB2
                  clear KB2 GB2 G7 G8 hB1 hB2
                  refine wpAnyH_done (by kernel_rfl) ?_ _
                  go_wp2_with fail
                  go_meet
                  exact ⟨g7, g8, A1, n1, c1, G1_, A2, n2, c2, G2_, rfl, rfl, F7, F8, hA1, hA2, HE1, HE2, KB, GB⟩
                · skip
                  go_simp
                  have F7 := Blk.new U20 24 #[.slice none 0 0]
                  have lk7 := KB.lt
                  have lb7 := GB.size
                  have l87 := F8.lt
                  have x1_7 := Off.new hA1
                  replace KB := KB.alloc (.cells #[.slice none 0 0] 24)
                  replace F8 := F8.alloc (.cells #[.slice none 0 0] 24)
                  replace hA1 := hA1.below ((Below.refl _ _).alloc (Nat.le_refl _) (.cells #[.slice none 0 0] 24))
                  replace GB := GB.alloc GB.size (.cells #[.slice none 0 0] 24)
                  refine hK.out _ _ ⟨KB, GB⟩ (fun hS => ?_)
                  clear hK K
                  generalize U20.alloc (.cells #[.slice none 0 0] 24) = U25 at KB GB hS F7 F8 hA1 ⊢
                  generalize U20.heap.size = g7 at F7 lk7 lb7 l87 x1_7 ⊢
                  refine wpAnyH_ready (rs := [5]) (by kernel_rfl) (by simp) ?_
                  refine AllReadyH.cons rfl (fun K hK => ?_) (AllReadyH.nil)
                  go_simp
                  refine (HS2.out _ GB).mono ?_
                  rintro e w26 ⟨A2, n2, c2, G2_, rfl, O2, E2, hn2, hm2, h26⟩
                  have x2_7 := Off.far O2 F7.lt
                  have x2_8 := Off.far O2 F8.lt
                  replace KB := KB.below h26 KB.lt
                  replace F7 := F7.below h26 F7.lt
                  replace F8 := F8.below h26 F8.lt
                  replace hA1 := hA1.below h26
                  have hA2 := short_nw O2 hn2 hm2
                  have HE2 := Lib.hid (And.intro E2 (own_nc O2.row))
                  replace GB := GB.trans (h26.mono GB.size)
                  clear h26 O2 E2 hn2 hm2
                  refine hK.out _ _ ⟨KB, GB⟩ (fun hS => ?_)
                  clear hK K
                  refine wpAnyH_ready (rs := [8]) (by kernel_rfl) (by simp) ?_
                  refine AllReadyH.cons rfl (fun K hK => ?_) (AllReadyH.nil)
                  have d0 := F7.cell 0
                  have f0 := F7.frozen 0
                  have KB2 := KB.far (p := ⟨g7, 0, none⟩) (by simp; omega) (.slice A1 n1 c1)
                  have GB2 := GB.setCell (p := ⟨g7, 0, none⟩) (by simp; omega) (.slice A1 n1 c1)
                  have G7 := (put1 (x := (.slice A1 n1 c1)) F7 GB (by omega)).1
                  have G8 := F8.far (p := ⟨g7, 0, none⟩) (by simp; omega) (.slice A1 n1 c1)
                  have hB1 := hA1.set x1_7 (.slice A1 n1 c1)
                  have hB2 := hA2.set x2_7 (.slice A1 n1 c1)
                  clear KB GB F7 F8 hA1 hA2 hS
                  go_simp
                  refine hK.out _ _ ⟨KB2, GB2⟩ (fun hS => ?_)
                  clear hK K d0 f0
                  generalize w26.setCell ⟨g7, 0, none⟩ (.slice A1 n1 c1) = U27 at KB2 GB2 hS G7 G8 hB1 hB2 ⊢
                  have KB := KB2
                  have GB := GB2
                  have F7 := G7
                  have F8 := G8
                  have hA1 := hB1
                  have hA2 := hB2
                  clear KB2 GB2 G7 G8 hB1 hB2
                  refine wpAnyH_ready (rs := [9]) (by kernel_rfl) (by simp) ?_
                  refine AllReadyH.cons rfl (fun K hK => ?_) (AllReadyH.nil)
                  have d0 := F8.cell 0
                  have f0 := F8.frozen 0
                  have KB2 := KB.far (p := ⟨g8, 0, none⟩) (by simp; omega) (.slice A2 n2 c2)
                  have GB2 := GB.setCell (p := ⟨g8, 0, none⟩) (by simp; omega) (.slice A2 n2 c2)
                  have G8 := (put1 (x := (.slice A2 n2 c2)) F8 GB (by omega)).1
                  have G7 := F7.far (p := ⟨g8, 0, none⟩) (by simp; omega) (.slice A2 n2 c2)
                  have hB1 := hA1.set x1_8 (.slice A2 n2 c2)
                  have hB2 := hA2.set x2_8 (.slice A2 n2 c2)
                  clear KB GB F8 F7 hA1 hA2 hS
                  go_simp
                  refine hK.out _ _ ⟨KB2, GB2⟩ (fun hS => ?_)
                  clear hK K d0 f0
                  generalize U27.setCell ⟨g8, 0, none⟩ (.slice A2 n2 c2) = U28 at KB2 GB2 hS G7 G8 hB1 hB2 ⊢
                  have KB := KB2
                  have GB := GB2
                  have F7 := G7
                  have F8 := G8
                  have hA1 := hB1
                  have hA2 := hB2
                  clear KB2 GB2 G7 G8 hB1 hB2
                  refine wpAnyH_done (by kernel_rfl) ?_ _
                  go_wp2_with fail
                  go_meet
                  exact ⟨g7, g8, A1, n1, c1, G1_, A2, n2, c2, G2_, rfl, rfl, F7, F8, hA1, hA2, HE1, HE2, KB, GB⟩
            · skip
              go_simp
              have F7 := Blk.new V 24 #[.slice none 0 0]
              have lk7 := KB.lt
              have lb7 := GB.size
              replace KB := KB.alloc (.cells #[.slice none 0 0] 24)
              replace GB := GB.alloc GB.size (.cells #[.slice none 0 0] 24)
              refine hK.out _ _ ⟨KB, GB⟩ (fun hS => ?_)
              clear hK K
              generalize V.alloc (.cells #[.slice none 0 0] 24) = U29 at KB GB hS F7 ⊢
              generalize V.heap.size = g7 at F7 lk7 lb7  ⊢
              refine wpAnyH_ready (rs := [1, 7]) (by kernel_rfl) (by simp) ?_
              refine AllReadyH.cons rfl (fun K hK => ?_) (AllReadyH.cons rfl (fun K hK => ?_) (AllReadyH.nil))
              · skip
                go_simp
                refine (HS1.out _ GB).mono ?_
                rintro e w30 ⟨A1, n1, c1, G1_, rfl, O1, E1, hn1, hm1, h30⟩
                have x1_7 := Off.far O1 F7.lt
                replace KB := KB.below h30 KB.lt
                replace F7 := F7.below h30 F7.lt
                have hA1 := short_nw O1 hn1 hm1
                have HE1 := Lib.hid (And.intro E1 (own_nc O1.row))
                replace GB := GB.trans (h30.mono GB.size)
                clear h30 O1 E1 hn1 hm1
                refine hK.out _ _ ⟨KB, GB⟩ (fun hS => ?_)
                clear hK K
                refine wpAnyH_ready (rs := [5, 7]) (by kernel_rfl) (by simp) ?_
                refine AllReadyH.cons rfl (fun K hK => ?_) (AllReadyH.cons rfl (fun K hK => ?_) (AllReadyH.nil))
                · skip
                  go_simp
                  refine (HS2.out _ GB).mono ?_
                  rintro e w31 ⟨A2, n2, c2, G2_, rfl, O2, E2, hn2, hm2, h31⟩
                  have x2_7 := Off.far O2 F7.lt
                  replace KB := KB.below h31 KB.lt
                  replace F7 := F7.below h31 F7.lt
                  replace hA1 := hA1.below h31
                  have hA2 := short_nw O2 hn2 hm2
                  have HE2 := Lib.hid (And.intro E2 (own_nc O2.row))
                  replace GB := GB.trans (h31.mono GB.size)
                  clear h31 O2 E2 hn2 hm2
                  refine hK.out _ _ ⟨KB, GB⟩ (fun hS => ?_)
                  clear hK K
                  refine wpAnyH_ready (rs := [7]) (by kernel_rfl) (by simp) ?_
                  refine AllReadyH.cons rfl (fun K hK => ?_) (AllReadyH.nil)
                  go_simp
                  have F8 := Blk.new w31 24 #[.slice none 0 0]
                  have lk8 := KB.lt
                  have lb8 := GB.size
                  have l78 := F7.lt
                  have x1_8 := Off.new hA1
                  have x2_8 := Off.new hA2
                  replace KB := KB.alloc (.cells #[.slice none 0 0] 24)
                  replace F7 := F7.alloc (.cells #[.slice none 0 0] 24)
                  replace hA1 := hA1.below ((Below.refl _ _).alloc (Nat.le_refl _) (.cells #[.slice none 0 0] 24))
                  replace hA2 := hA2.below ((Below.refl _ _).alloc (Nat.le_refl _) (.cells #[.slice none 0 0] 24))
                  replace GB := GB.alloc GB.size (.cells #[.slice none 0 0] 24)
                  refine hK.out _ _ ⟨KB, GB⟩ (fun hS => ?_)
                  clear hK K
                  generalize w31.alloc (.cells #[.slice none 0 0] 24) = U32 at KB GB hS F8 F7 hA1 hA2 ⊢
                  generalize w31.heap.size = g8 at F8 lk8 lb8 l78 x1_8 x2_8 ⊢
                  refine wpAnyH_ready (rs := [8]) (by kernel_rfl) (by simp) ?_
                  refine AllReadyH.cons rfl (fun K hK => ?_) (AllReadyH.nil)
                  have d0 := F7.cell 0
                  have f0 := F7.frozen 0
                  have KB2 := KB.far (p := ⟨g7, 0, none⟩) (by simp; omega) (.slice A1 n1 c1)
                  have GB2 := GB.setCell (p := ⟨g7, 0, none⟩) (by simp; omega) (.slice A1 n1 c1)
                  have G7 := (put1 (x := (.slice A1 n1 c1)) F7 GB (by omega)).1
                  have G8 := F8.far (p := ⟨g7, 0, none⟩) (by simp; omega) (.slice A1 n1 c1)
                  have hB1 := hA1.set x1_7 (.slice A1 n1 c1)
                  have hB2 := hA2.set x2_7 (.slice A1 n1 c1)
                  clear KB GB F7 F8 hA1 hA2 hS
                  go_simp
                  refine hK.out _ _ ⟨KB2, GB2⟩ (fun hS => ?_)
                  clear hK K d0 f0
                  generalize U32.setCell ⟨g7, 0, none⟩ (.slice A1 n1 c1) = U33 at KB2 GB2 hS G7 G8 hB1 hB2 ⊢
                  have KB := KB2
                  have GB := GB2
                  have F7 := G7
                  have F8 := G8
                  have hA1 := hB1
                  have hA2 := hB2
                  clear KB2 GB2 G7 G8 hB1 hB2
                  refine wpAnyH_ready (rs := [9]) (by kernel_rfl) (by simp) ?_
                  refine AllReadyH.cons rfl (fun K hK => ?_) (AllReadyH.nil)
                  have d0 := F8.cell 0
                  have f0 := F8.frozen 0
                  have KB2 := KB.far (p := ⟨g8, 0, none⟩) (by simp; omega) (.slice A2 n2 c2)
                  have GB2 := GB.setCell (p := ⟨g8, 0, none⟩) (by simp; omega) (.slice A2 n2 c2)
                  have G8 := (put1 (x := (.slice A2 n2 c2)) F8 GB (by omega)).1
                  have G7 := F7.far (p := ⟨g8, 0, none⟩) (by simp; omega) (.slice A2 n2 c2)
                  have hB1 := hA1.set x1_8 (.slice A2 n2 c2)
                  have hB2 := hA2.set x2_8 (.slice A2 n2 c2)
                  clear KB GB F8 F7 hA1 hA2 hS
                  go_simp
                  refine hK.out _ _ ⟨KB2, GB2⟩ (fun hS => ?_)
                  clear hK K d0 f0
                  generalize U33.setCell ⟨g8, 0, none⟩ (.slice A2 n2 c2) = U34 at KB2 GB2 hS G7 G8 hB1 hB2 ⊢
                  have KB := KB2
                  have GB := GB2
                  have F7 := G7
                  have F8 := G8
                  have hA1 := hB1
                  have hA2 := hB2
                  clear KB2 GB2 G7 G8 hB1 hB2
                  refine wpAnyH_done (by kernel_rfl) ?_ _
                  go_wp2_with fail
                  go_meet
                  exact ⟨g7, g8, A1, n1, c1, G1_, A2, n2, c2, G2_, rfl, rfl, F7, F8, hA1, hA2, HE1, HE2, KB, GB⟩
                · skip
                  go_simp
                  have F8 := Blk.new w30 24 #[.slice none 0 0]
                  have lk8 := KB.lt
                  have lb8 := GB.size
                  have l78 := F7.lt
                  have x1_8 := Off.new hA1
                  replace KB := KB.alloc (.cells #[.slice none 0 0] 24)
                  replace F7 := F7.alloc (.cells #[.slice none 0 0] 24)
                  replace hA1 := hA1.below ((Below.refl _ _).alloc (Nat.le_refl _) (.cells #[.slice none 0 0] 24))
                  replace GB := GB.alloc GB.size (.cells #[.slice none 0 0] 24)
                  refine hK.out _ _ ⟨KB, GB⟩ (fun hS => ?_)
                  clear hK K
                  generalize w30.alloc (.cells #[.slice none 0 0] 24) = U35 at KB GB hS F8 F7 hA1 ⊢
                  generalize w30.heap.size = g8 at F8 lk8 lb8 l78 x1_8 ⊢
                  refine wpAnyH_ready (rs := [5]) (by kernel_rfl) (by simp) ?_
                  refine AllReadyH.cons rfl (fun K hK => ?_) (AllReadyH.nil)
                  go_simp
                  refine (HS2.out _ GB).mono ?_
                  rintro e w36 ⟨A2, n2, c2, G2_, rfl, O2, E2, hn2, hm2, h36⟩
                  have x2_7 := Off.far O2 F7.lt
                  have x2_8 := Off.far O2 F8.lt
                  replace KB := KB.below h36 KB.lt
                  replace F7 := F7.below h36 F7.lt
                  replace F8 := F8.below h36 F8.lt
                  replace hA1 := hA1.below h36
                  have hA2 := short_nw O2 hn2 hm2
                  have HE2 := Lib.hid (And.intro E2 (own_nc O2.row))
                  replace GB := GB.trans (h36.mono GB.size)
                  clear h36 O2 E2 hn2 hm2
                  refine hK.out _ _ ⟨KB, GB⟩ (fun hS => ?_)
                  clear hK K
                  refine wpAnyH_ready (rs := [8]) (by kernel_rfl) (by simp) ?_
                  refine AllReadyH.cons rfl (fun K hK => ?_) (AllReadyH.nil)
                  have d0 := F7.cell 0
                  have f0 := F7.frozen 0
                  have KB2 := KB.far (p := ⟨g7, 0, none⟩) (by simp; omega) (.slice A1 n1 c1)
                  have GB2 := GB.setCell (p := ⟨g7, 0, none⟩) (by simp; omega) (.slice A1 n1 c1)
                  have G7 := (put1 (x := (.slice A1 n1 c1)) F7 GB (by omega)).1
                  have G8 := F8.far (p := ⟨g7, 0, none⟩) (by simp; omega) (.slice A1 n1 c1)
                  have hB1 := hA1.set x1_7 (.slice A1 n1 c1)
                  have hB2 := hA2.set x2_7 (.slice A1 n1 c1)
                  clear KB GB F7 F8 hA1 hA2 hS
                  go_simp
                  refine hK.out _ _ ⟨KB2, GB2⟩ (fun hS => ?_)
                  clear hK K d0 f0
                  generalize w36.setCell ⟨g7, 0, none⟩ (.slice A1 n1 c1) = U37 at KB2 GB2 hS G7 G8 hB1 hB2 ⊢
                  have KB := KB2
                  have GB := GB2
                  have F7 := G7
                  have F8 := G8
                  have hA1 := hB1
                  have hA2 := hB2
                  clear KB2 GB2 G7 G8 hB1 hB2
                  refine wpAnyH_ready (rs := [9]) (by kernel_rfl) (by simp) ?_
                  refine AllReadyH.cons rfl (fun K hK => ?_) (AllReadyH.nil)
                  have d0 := F8.cell 0
                  have f0 := F8.frozen 0
                  have KB2 := KB.far (p := ⟨g8, 0, none⟩) (by simp; omega) (.slice A2 n2 c2)
                  have GB2 := GB.setCell (p := ⟨g8, 0, none⟩) (by simp; omega) (.slice A2 n2 c2)
                  have G8 := (put1 (x := (.slice A2 n2 c2)) F8 GB (by omega)).1
                  have G7 := F7.far (p := ⟨g8, 0, none⟩) (by simp; omega) (.slice A2 n2 c2)
                  have hB1 := hA1.set x1_8 (.slice A2 n2 c2)
                  have hB2 := hA2.set x2_8 (.slice A2 n2 c2)
                  clear KB GB F8 F7 hA1 hA2 hS
                  go_simp
                  refine hK.out _ _ ⟨KB2, GB2⟩ (fun hS => ?_)
                  clear hK K d0 f0
                  generalize U37.setCell ⟨g8, 0, none⟩ (.slice A2 n2 c2) = U38 at KB2 GB2 hS G7 G8 hB1 hB2 ⊢
                  have KB := KB2
                  have GB := GB2
                  have F7 := G7
                  have F8 := G8
                  have hA1 := hB1
                  have hA2 := hB2
                  clear KB2 GB2 G7 G8 hB1 hB2
                  refine wpAnyH_done (by kernel_rfl) ?_ _
                  go_wp2_with fail
                  go_meet
                  exact ⟨g7, g8, A1, n1, c1, G1_, A2, n2, c2, G2_, rfl, rfl, F7, F8, hA1, hA2, HE1, HE2, KB, GB⟩
              · skip
                go_simp
                have F8 := Blk.new U29 24 #[.slice none 0 0]
                have lk8 := KB.lt
                have lb8 := GB.size
                have l78 := F7.lt
                replace KB := KB.alloc (.cells #[.slice none 0 0] 24)
                replace F7 := F7.alloc (.cells #[.slice none 0 0] 24)
                replace GB := GB.alloc GB.size (.cells #[.slice none 0 0] 24)
                refine hK.out _ _ ⟨KB, GB⟩ (fun hS => ?_)
                clear hK K
                generalize U29.alloc (.cells #[.slice none 0 0] 24) = U39 at KB GB hS F8 F7 ⊢
                generalize U29.heap.size = g8 at F8 lk8 lb8 l78 ⊢
                refine wpAnyH_ready (rs := [1]) (by kernel_rfl) (by simp) ?_
                refine AllReadyH.cons rfl (fun K hK => ?_) (AllReadyH.nil)
                go_simp
                refine (HS1.out _ GB).mono ?_
                rintro e w40 ⟨A1, n1, c1, G1_, rfl, O1, E1, hn1, hm1, h40⟩
                have x1_7 := Off.far O1 F7.lt
                have x1_8 := Off.far O1 F8.lt
                replace KB := KB.below h40 KB.lt
                replace F7 := F7.below h40 F7.lt
                replace F8 := F8.below h40 F8.lt
                have hA1 := short_nw O1 hn1 hm1
                have HE1 := Lib.hid (And.intro E1 (own_nc O1.row))
                replace GB := GB.trans (h40.mono GB.size)
                clear h40 O1 E1 hn1 hm1
                refine hK.out _ _ ⟨KB, GB⟩ (fun hS => ?_)
                clear hK K
                refine wpAnyH_ready (rs := [5]) (by kernel_rfl) (by simp) ?_
                refine AllReadyH.cons rfl (fun K hK => ?_) (AllReadyH.nil)
                go_simp
                refine (HS2.out _ GB).mono ?_
                rintro e w41 ⟨A2, n2, c2, G2_, rfl, O2, E2, hn2, hm2, h41⟩
                have x2_7 := Off.far O2 F7.lt
                have x2_8 := Off.far O2 F8.lt
                replace KB := KB.below h41 KB.lt
                replace F7 := F7.below h41 F7.lt
                replace F8 := F8.below h41 F8.lt
                replace hA1 := hA1.below h41
                have hA2 := short_nw O2 hn2 hm2
                have HE2 := Lib.hid (And.intro E2 (own_nc O2.row))
                replace GB := GB.trans (h41.mono GB.size)
                clear h41 O2 E2 hn2 hm2
                refine hK.out _ _ ⟨KB, GB⟩ (fun hS => ?_)
                clear hK K
                refine wpAnyH_ready (rs := [8]) (by kernel_rfl) (by simp) ?_
                refine AllReadyH.cons rfl (fun K hK => ?_) (AllReadyH.nil)
                have d0 := F7.cell 0
                have f0 := F7.frozen 0
                have KB2 := KB.far (p := ⟨g7, 0, none⟩) (by simp; omega) (.slice A1 n1 c1)
                have GB2 := GB.setCell (p := ⟨g7, 0, none⟩) (by simp; omega) (.slice A1 n1 c1)
                have G7 := (put1 (x := (.slice A1 n1 c1)) F7 GB (by omega)).1
                have G8 := F8.far (p := ⟨g7, 0, none⟩) (by simp; omega) (.slice A1 n1 c1)
                have hB1 := hA1.set x1_7 (.slice A1 n1 c1)
                have hB2 := hA2.set x2_7 (.slice A1 n1 c1)
                clear KB GB F7 F8 hA1 hA2 hS
                go_simp
                refine hK.out _ _ ⟨KB2, GB2⟩ (fun hS => ?_)
                clear hK K d0 f0
                generalize w41.setCell ⟨g7, 0, none⟩ (.slice A1 n1 c1) = U42 at KB2 GB2 hS G7 G8 hB1 hB2 ⊢
                have KB := KB2
                have GB := GB2
                have F7 := G7
                have F8 := G8
                have hA1 := hB1
                have hA2 := hB2
                clear KB2 GB2 G7 G8 hB1 hB2
                refine wpAnyH_ready (rs := [9]) (by kernel_rfl) (by simp) ?_
                refine AllReadyH.cons rfl (fun K hK => ?_) (AllReadyH.nil)
                have d0 := F8.cell 0
                have f0 := F8.frozen 0
                have KB2 := KB.far (p := ⟨g8, 0, none⟩) (by simp; omega) (.slice A2 n2 c2)
                have GB2 := GB.setCell (p := ⟨g8, 0, none⟩) (by simp; omega) (.slice A2 n2 c2)
                have G8 := (put1 (x := (.slice A2 n2 c2)) F8 GB (by omega)).1
                have G7 := F7.far (p := ⟨g8, 0, none⟩) (by simp; omega) (.slice A2 n2 c2)
                have hB1 := hA1.set x1_8 (.slice A2 n2 c2)
                have hB2 := hA2.set x2_8 (.slice A2 n2 c2)
                clear KB GB F8 F7 hA1 hA2 hS
                go_simp
                refine hK.out _ _ ⟨KB2, GB2⟩ (fun hS => ?_)
                clear hK K d0 f0
                generalize U42.setCell ⟨g8, 0, none⟩ (.slice A2 n2 c2) = U43 at KB2 GB2 hS G7 G8 hB1 hB2 ⊢
                have KB := KB2
                have GB := GB2
                have F7 := G7
                have F8 := G8
                have hA1 := hB1
                have hA2 := hB2
                clear KB2 GB2 G7 G8 hB1 hB2
                refine wpAnyH_done (by kernel_rfl) ?_ _
                go_wp2_with fail
                go_meet
                exact ⟨g7, g8, A1, n1, c1, G1_, A2, n2, c2, G2_, rfl, rfl, F7, F8, hA1, hA2, HE1, HE2, KB, GB⟩
            · skip
              go_simp
              have F8 := Blk.new V 24 #[.slice none 0 0]
              have lk8 := KB.lt
              have lb8 := GB.size
              replace KB := KB.alloc (.cells #[.slice none 0 0] 24)
              replace GB := GB.alloc GB.size (.cells #[.slice none 0 0] 24)
              refine hK.out _ _ ⟨KB, GB⟩ (fun hS => ?_)
              clear hK K
              generalize V.alloc (.cells #[.slice none 0 0] 24) = U44 at KB GB hS F8 ⊢
              generalize V.heap.size = g8 at F8 lk8 lb8  ⊢
              refine wpAnyH_ready (rs := [1, 6]) (by kernel_rfl) (by simp) ?_
              refine AllReadyH.cons rfl (fun K hK => ?_) (AllReadyH.cons rfl (fun K hK => ?_) (AllReadyH.nil))
              · skip
                go_simp
                refine (HS1.out _ GB).mono ?_
                rintro e w45 ⟨A1, n1, c1, G1_, rfl, O1, E1, hn1, hm1, h45⟩
                have x1_8 := Off.far O1 F8.lt
                replace KB := KB.below h45 KB.lt
                replace F8 := F8.below h45 F8.lt
                have hA1 := short_nw O1 hn1 hm1
                have HE1 := Lib.hid (And.intro E1 (own_nc O1.row))
                replace GB := GB.trans (h45.mono GB.size)
                clear h45 O1 E1 hn1 hm1
                refine hK.out _ _ ⟨KB, GB⟩ (fun hS => ?_)
                clear hK K
                refine wpAnyH_ready (rs := [5, 6]) (by kernel_rfl) (by simp) ?_
                refine AllReadyH.cons rfl (fun K hK => ?_) (AllReadyH.cons rfl (fun K hK => ?_) (AllReadyH.nil))
                · skip
                  go_simp
                  refine (HS2.out _ GB).mono ?_
                  rintro e w46 ⟨A2, n2, c2, G2_, rfl, O2, E2, hn2, hm2, h46⟩
                  have x2_8 := Off.far O2 F8.lt
                  replace KB := KB.below h46 KB.lt
                  replace F8 := F8.below h46 F8.lt
                  replace hA1 := hA1.below h46
                  have hA2 := short_nw O2 hn2 hm2
                  have HE2 := Lib.hid (And.intro E2 (own_nc O2.row))
                  replace GB := GB.trans (h46.mono GB.size)
                  clear h46 O2 E2 hn2 hm2
                  refine hK.out _ _ ⟨KB, GB⟩ (fun hS => ?_)
                  clear hK K
                  refine wpAnyH_ready (rs := [6]) (by kernel_rfl) (by simp) ?_
                  refine AllReadyH.cons rfl (fun K hK => ?_) (AllReadyH.nil)
                  go_simp
                  have F7 := Blk.new w46 24 #[.slice none 0 0]
                  have lk7 := KB.lt
                  have lb7 := GB.size
                  have l87 := F8.lt
                  have x1_7 := Off.new hA1
                  have x2_7 := Off.new hA2
                  replace KB := KB.alloc (.cells #[.slice none 0 0] 24)
                  replace F8 := F8.alloc (.cells #[.slice none 0 0] 24)
                  replace hA1 := hA1.below ((Below.refl _ _).alloc (Nat.le_refl _) (.cells #[.slice none 0 0] 24))
                  replace hA2 := hA2.below ((Below.refl _ _).alloc (Nat.le_refl _) (.cells #[.slice none 0 0] 24))
                  replace GB := GB.alloc GB.size (.cells #[.slice none 0 0] 24)
                  refine hK.out _ _ ⟨KB, GB⟩ (fun hS => ?_)
                  clear hK K
                  generalize w46.alloc (.cells #[.slice none 0 0] 24) = U47 at KB GB hS F7 F8 hA1 hA2 ⊢
                  generalize w46.heap.size = g7 at F7 lk7 lb7 l87 x1_7 x2_7 ⊢
                  refine wpAnyH_ready (rs := [8]) (by kernel_rfl) (by simp) ?_
                  refine AllReadyH.cons rfl (fun K hK => ?_) (AllReadyH.nil)
                  have d0 := F7.cell 0
                  have f0 := F7.frozen 0
                  have KB2 := KB.far (p := ⟨g7, 0, none⟩) (by simp; omega) (.slice A1 n1 c1)
                  have GB2 := GB.setCell (p := ⟨g7, 0, none⟩) (by simp; omega) (.slice A1 n1 c1)
                  have G7 := (put1 (x := (.slice A1 n1 c1)) F7 GB (by omega)).1
                  have G8 := F8.far (p := ⟨g7, 0, none⟩) (by simp; omega) (.slice A1 n1 c1)
                  have hB1 := hA1.set x1_7 (.slice A1 n1 c1)
                  have hB2 := hA2.set x2_7 (.slice A1 n1 c1)
                  clear KB GB F7 F8 hA1 hA2 hS
                  go_simp
                  refine hK.out _ _ ⟨KB2, GB2⟩ (fun hS => ?_)
                  clear hK K d0 f0
                  generalize U47.setCell ⟨g7, 0, none⟩ (.slice A1 n1 c1) = U48 at KB2 GB2 hS G7 G8 hB1 hB2 ⊢
                  have KB := KB2
                  have GB := GB2
                  have F7 := G7
                  have F8 := G8
                  have hA1 := hB1
                  have hA2 := hB2
                  clear KB2 GB2 G7 G8 hB1 hB2
                  refine wpAnyH_ready (rs := [9]) (by kernel_rfl) (by simp) ?_
                  refine AllReadyH.cons rfl (fun K hK => ?_) (AllReadyH.nil)
                  have d0 := F8.cell 0
                  have f0 := F8.frozen 0
                  have KB2 := KB.far (p := ⟨g8, 0, none⟩) (by simp; omega) (.slice A2 n2 c2)
                  have GB2 := GB.setCell (p := ⟨g8, 0, none⟩) (by simp; omega) (.slice A2 n2 c2)
                  have G8 := (put1 (x := (.slice A2 n2 c2)) F8 GB (by omega)).1
                  have G7 := F7.far (p := ⟨g8, 0, none⟩) (by simp; omega) (.slice A2 n2 c2)
                  have hB1 := hA1.set x1_8 (.slice A2 n2 c2)
                  have hB2 := hA2.set x2_8 (.slice A2 n2 c2)
                  clear KB GB F8 F7 hA1 hA2 hS
                  go_simp
                  refine hK.out _ _ ⟨KB2, GB2⟩ (fun hS => ?_)
                  clear hK K d0 f0
                  generalize U48.setCell ⟨g8, 0, none⟩ (.slice A2 n2 c2) = U49 at KB2 GB2 hS G7 G8 hB1 hB2 ⊢
                  have KB := KB2
                  have GB := GB2
                  have F7 := G7
                  have F8 := G8
                  have hA1 := hB1
                  have hA2 := hB2
                  clear KB2 GB2 G7 G8 hB1 hB2
                  refine wpAnyH_done (by kernel_rfl) ?_ _
                  go_wp2_with fail
                  go_meet
                  exact ⟨g7, g8, A1, n1, c1, G1_, A2, n2, c2, G2_, rfl, rfl, F7, F8, hA1, hA2, HE1, HE2, KB, GB⟩
                · skip
                  go_simp
                  have F7 := Blk.new w45 24 #[.slice none 0 0]
                  have lk7 := KB.lt
                  have lb7 := GB.size
                  have l87 := F8.lt
                  have x1_7 := Off.new hA1
                  replace KB := KB.alloc (.cells #[.slice none 0 0] 24)
                  replace F8 := F8.alloc (.cells #[.slice none 0 0] 24)
                  replace hA1 := hA1.below ((Below.refl _ _).alloc (Nat.le_refl _) (.cells #[.slice none 0 0] 24))
                  replace GB := GB.alloc GB.size (.cells #[.slice none 0 0] 24)
                  refine hK.out _ _ ⟨KB, GB⟩ (fun hS => ?_)
                  clear hK K
                  generalize w45.alloc (.cells #[.slice none 0 0] 24) = U50 at KB GB hS F7 F8 hA1 ⊢
                  generalize w45.heap.size = g7 at F7 lk7 lb7 l87 x1_7 ⊢
                  refine wpAnyH_ready (rs := [5]) (by kernel_rfl) (by simp) ?_
                  refine AllReadyH.cons rfl (fun K hK => ?_) (AllReadyH.nil)
                  go_simp
                  refine (HS2.out _ GB).mono ?_
                  rintro e w51 ⟨A2, n2, c2, G2_, rfl, O2, E2, hn2, hm2, h51⟩
                  have x2_7 := Off.far O2 F7.lt
                  have x2_8 := Off.far O2 F8.lt
                  replace KB := KB.below h51 KB.lt
                  replace F7 := F7.below h51 F7.lt
                  replace F8 := F8.below h51 F8.lt
                  replace hA1 := hA1.below h51
                  have hA2 := short_nw O2 hn2 hm2
                  have HE2 := Lib.hid (And.intro E2 (own_nc O2.row))
                  replace GB := GB.trans (h51.mono GB.size)
                  clear h51 O2 E2 hn2 hm2
                  refine hK.out _ _ ⟨KB, GB⟩ (fun hS => ?_)
                  clear hK K
                  refine wpAnyH_ready (rs := [8]) (by kernel_rfl) (by simp) ?_
                  refine AllReadyH.cons rfl (fun K hK => ?_) (AllReadyH.nil)
                  have d0 := F7.cell 0
                  have f0 := F7.frozen 0
                  have KB2 := KB.far (p := ⟨g7, 0, none⟩) (by simp; omega) (.slice A1 n1 c1)
                  have GB2 := GB.setCell (p := ⟨g7, 0, none⟩) (by simp; omega) (.slice A1 n1 c1)
                  have G7 := (put1 (x := (.slice A1 n1 c1)) F7 GB (by omega)).1
                  have G8 := F8.far (p := ⟨g7, 0, none⟩) (by simp; omega) (.slice A1 n1 c1)
                  have hB1 := hA1.set x1_7 (.slice A1 n1 c1)
                  have hB2 := hA2.set x2_7 (.slice A1 n1 c1)
                  clear KB GB F7 F8 hA1 hA2 hS
                  go_simp
                  refine hK.out _ _ ⟨KB2, GB2⟩ (fun hS => ?_)
                  clear hK K d0 f0
                  generalize w51.setCell ⟨g7, 0, none⟩ (.slice A1 n1 c1) = U52 at KB2 GB2 hS G7 G8 hB1 hB2 ⊢
                  have KB := KB2
                  have GB := GB2
                  have F7 := G7
                  have F8 := G8
                  have hA1 := hB1
                  have hA2 := hB2
                  clear KB2 GB2 G7 G8 hB1 hB2
                  refine wpAnyH_ready (rs := [9]) (by kernel_rfl) (by simp) ?_
                  refine AllReadyH.cons rfl (fun K hK => ?_) (AllReadyH.nil)
                  have d0 := F8.cell 0
                  have f0 := F8.frozen 0
                  have KB2 := KB.far (p := ⟨g8, 0, none⟩) (by simp; omega) (.slice A2 n2 c2)
                  have GB2 := GB.setCell (p := ⟨g8, 0, none⟩) (by simp; omega) (.slice A2 n2 c2)
                  have G8 := (put1 (x := (.slice A2 n2 c2)) F8 GB (by omega)).1
                  have G7 := F7.far (p := ⟨g8, 0, none⟩) (by simp; omega) (.slice A2 n2 c2)
                  have hB1 := hA1.set x1_8 (.slice A2 n2 c2)
                  have hB2 := hA2.set x2_8 (.slice A2 n2 c2)
                  clear KB GB F8 F7 hA1 hA2 hS
                  go_simp
                  refine hK.out _ _ ⟨KB2, GB2⟩ (fun hS => ?_)
                  clear hK K d0 f0
                  generalize U52.setCell ⟨g8, 0, none⟩ (.slice A2 n2 c2) = U53 at KB2 GB2 hS G7 G8 hB1 hB2 ⊢
                  have KB := KB2
                  have GB := GB2
                  have F7 := G7
                  have F8 := G8
                  have hA1 := hB1
                  have hA2 := hB2
                  clear KB2 GB2 G7 G8 hB1 hB2
                  refine wpAnyH_done (by kernel_rfl) ?_ _
                  go_wp2_with fail
                  go_meet
                  exact ⟨g7, g8, A1, n1, c1, G1_, A2, n2, c2, G2_, rfl, rfl, F7, F8, hA1, hA2, HE1, HE2, KB, GB⟩
              · skip
                go_simp
                have F7 := Blk.new U44 24 #[.slice none 0 0]
                have lk7 := KB.lt
                have lb7 := GB.size
                have l87 := F8.lt
                replace KB := KB.alloc (.cells #[.slice none 0 0] 24)
                replace F8 := F8.alloc (.cells #[.slice none 0 0] 24)
                replace GB := GB.alloc GB.size (.cells #[.slice none 0 0] 24)
                refine hK.out _ _ ⟨KB, GB⟩ (fun hS => ?_)
                clear hK K
                generalize U44.alloc (.cells #[.slice none 0 0] 24) = U54 at KB GB hS F7 F8 ⊢
                generalize U44.heap.size = g7 at F7 lk7 lb7 l87 ⊢
                refine wpAnyH_ready (rs := [1]) (by kernel_rfl) (by simp) ?_
                refine AllReadyH.cons rfl (fun K hK => ?_) (AllReadyH.nil)
                go_simp
                refine (HS1.out _ GB).mono ?_
                rintro e w55 ⟨A1, n1, c1, G1_, rfl, O1, E1, hn1, hm1, h55⟩
                have x1_7 := Off.far O1 F7.lt
                have x1_8 := Off.far O1 F8.lt
                replace KB := KB.below h55 KB.lt
                replace F7 := F7.below h55 F7.lt
                replace F8 := F8.below h55 F8.lt
                have hA1 := short_nw O1 hn1 hm1
                have HE1 := Lib.hid (And.intro E1 (own_nc O1.row))
                replace GB := GB.trans (h55.mono GB.size)
                clear h55 O1 E1 hn1 hm1
                refine hK.out _ _ ⟨KB, GB⟩ (fun hS => ?_)
                clear hK K
                refine wpAnyH_ready (rs := [5]) (by kernel_rfl) (by simp) ?_
                refine AllReadyH.cons rfl (fun K hK => ?_) (AllReadyH.nil)
                go_simp
                refine (HS2.out _ GB).mono ?_
                rintro e w56 ⟨A2, n2, c2, G2_, rfl, O2, E2, hn2, hm2, h56⟩
                have x2_7 := Off.far O2 F7.lt
                have x2_8 := Off.far O2 F8.lt
                replace KB := KB.below h56 KB.lt
                replace F7 := F7.below h56 F7.lt
                replace F8 := F8.below h56 F8.lt
                replace hA1 := hA1.below h56
                have hA2 := short_nw O2 hn2 hm2
                have HE2 := Lib.hid (And.intro E2 (own_nc O2.row))
                replace GB := GB.trans (h56.mono GB.size)
                clear h56 O2 E2 hn2 hm2
                refine hK.out _ _ ⟨KB, GB⟩ (fun hS => ?_)
                clear hK K
                refine wpAnyH_ready (rs := [8]) (by kernel_rfl) (by simp) ?_
                refine AllReadyH.cons rfl (fun K hK => ?_) (AllReadyH.nil)
                have d0 := F7.cell 0
                have f0 := F7.frozen 0
                have KB2 := KB.far (p := ⟨g7, 0, none⟩) (by simp; omega) (.slice A1 n1 c1)
                have GB2 := GB.setCell (p := ⟨g7, 0, none⟩) (by simp; omega) (.slice A1 n1 c1)
                have G7 := (put1 (x := (.slice A1 n1 c1)) F7 GB (by omega)).1
                have G8 := F8.far (p := ⟨g7, 0, none⟩) (by simp; omega) (.slice A1 n1 c1)
                have hB1 := hA1.set x1_7 (.slice A1 n1 c1)
                have hB2 := hA2.set x2_7 (.slice A1 n1 c1)
                clear KB GB F7 F8 hA1 hA2 hS
                go_simp
                refine hK.out _ _ ⟨KB2, GB2⟩ (fun hS => ?_)
                clear hK K d0 f0
                generalize w56.setCell ⟨g7, 0, none⟩ (.slice A1 n1 c1) = U57 at KB2 GB2 hS G7 G8 hB1 hB2 ⊢
                have KB := KB2
                have GB := GB2
                have F7 := G7
                have F8 := G8
                have hA1 := hB1
                have hA2 := hB2
                clear KB2 GB2 G7 G8 hB1 hB2
                refine wpAnyH_ready (rs := [9]) (by kernel_rfl) (by simp) ?_
                refine AllReadyH.cons rfl (fun K hK => ?_) (AllReadyH.nil)
                have d0 := F8.cell 0
                have f0 := F8.frozen 0
                have KB2 := KB.far (p := ⟨g8, 0, none⟩) (by simp; omega) (.slice A2 n2 c2)
                have GB2 := GB.setCell (p := ⟨g8, 0, none⟩) (by simp; omega) (.slice A2 n2 c2)
                have G8 := (put1 (x := (.slice A2 n2 c2)) F8 GB (by omega)).1
                have G7 := F7.far (p := ⟨g8, 0, none⟩) (by simp; omega) (.slice A2 n2 c2)
                have hB1 := hA1.set x1_8 (.slice A2 n2 c2)
                have hB2 := hA2.set x2_8 (.slice A2 n2 c2)
                clear KB GB F8 F7 hA1 hA2 hS
                go_simp
                refine hK.out _ _ ⟨KB2, GB2⟩ (fun hS => ?_)
                clear hK K d0 f0
                generalize U57.setCell ⟨g8, 0, none⟩ (.slice A2 n2 c2) = U58 at KB2 GB2 hS G7 G8 hB1 hB2 ⊢
                have KB := KB2
                have GB := GB2
                have F7 := G7
                have F8 := G8
                have hA1 := hB1
                have hA2 := hB2
                clear KB2 GB2 G7 G8 hB1 hB2
                refine wpAnyH_done (by kernel_rfl) ?_ _
                go_wp2_with fail
                go_meet
                exact ⟨g7, g8, A1, n1, c1, G1_, A2, n2, c2, G2_, rfl, rfl, F7, F8, hA1, hA2, HE1, HE2, KB, GB⟩
        case rest =>
          clear KB GB
          obtain ⟨g7, g8, A1, n1, c1, G1, A2, n2, c2, G2, rfl, rfl, F7, F8, hA1, hA2, HE1, HE2, KB, B⟩ := hcut
          rename World => X
          have GB := Below.refl X.heap.size X
          have HL1 := Lib.hid hA1.len
          have HNC := Lib.hid HE1.out.2
          have HBw : Hid (∀ u, Below X.heap.size X u → Below w.heap.size w u) := Lib.hid (fun u h => B.trans (h.mono B.size))
          have HP1 : Hid (∀ u, Below X.heap.size X u → NW u A1 n1 G1) := Lib.hid (fun u h => hA1.below h)
          have HP2 : Hid (∀ u, Below X.heap.size X u → NW u A2 n2 G2) := Lib.hid (fun u h => hA2.below h)
          have HF7 : Hid (∀ u, Below X.heap.size X u → Blk u g7 24 #[.slice A1 n1 c1]) := Lib.hid (fun u h => F7.below h F7.lt)
          have HF8 : Hid (∀ u, Below X.heap.size X u → Blk u g8 24 #[.slice A2 n2 c2]) := Lib.hid (fun u h => F8.below h F8.lt)
          have HF6 : Hid (∀ u, Below X.heap.size X u → Blk u g6 24 #[.slice Ax nx cx]) := Lib.hid (fun u h => KB.below h KB.lt)
          have HSx : Hid (∀ u, Below X.heap.size X u → Calls Try.prog 10 #[.agg #[.slice Ax nx cx]] u (ShortSaid gx u)) := Lib.hid (fun u h => HS1.out u (HBw.out u h))
          obtain ⟨sm, hsm⟩ : ∃ sm, decide (gsM G1 = gsM G2) = sm := ⟨_, rfl⟩
          have HSm : Hid (∀ u, Below X.heap.size X u → Calls Try.prog 17 #[.agg #[.slice A1 n1 c1], .agg #[.slice A2 n2 c2]] u (Said (.bool sm) u)) := Lib.hid (fun u h => hsm ▸ gsame_any A1 n1 c1 G1 A2 n2 c2 G2 u (HP1.out u h) (HP2.out u h))
          have HSr : Hid (∀ u, Below X.heap.size X u → Calls Try.prog 13 #[.agg #[.slice A1 n1 c1], .agg #[.slice A2 n2 c2]] u (Said (.bool sm) u)) := Lib.hid (fun u h => hsm ▸ dsame_any A1 n1 c1 G1 A2 n2 c2 G2 u (HP1.out u h) (HP2.out u h))
          have HSs : Hid (∀ (A3 : Option Addr) (n3 c3 : Nat) (G3 : List Gn) (u : World), (NW u A3 n3 G3 ∧ gsM G3 = shortL (gsM gx) ∧ Below X.heap.size X u) → Calls Try.prog 17 #[.agg #[.slice A1 n1 c1], .agg #[.slice A3 n3 c3]] u (Said (.bool true) u)) := Lib.hid (fun A3 n3 c3 G3 u h => by
            have := gsame_any A1 n1 c1 G1 A3 n3 c3 G3 u (HP1.out u h.2.2) h.1
            rwa [decide_eq_true (HE1.out.1.trans h.2.1.symm)] at this)
          have b9 : (sm != sm) = false := by simp
          clear hsm F7 F8 hA1 hA2 HE1 HE2 KB B HS1 HS2
          cases hr : rightG (gsM G1) with
          | false =>
            have HRx : Hid (∀ u, Below X.heap.size X u → Calls Try.prog 15 #[.agg #[.slice A1 n1 c1]] u (Said (.bool false) u)) := Lib.hid (fun u h => by
              have := dright_any A1 n1 c1 G1 u (HP1.out u h) HNC.out
              rwa [hr] at this)
            have HCx : Hid (∀ u, Below X.heap.size X u → Calls Try.prog 16 #[.agg #[.slice A1 n1 c1]] u (Said (.int .i64 240) u)) := Lib.hid (fun u h => by
              have := gcheck_any A1 n1 c1 G1 u (HP1.out u h) HNC.out
              unfold chkG at this
              rw [hr] at this
              exact this)
            have HRo : Hid (∀ u, Below X.heap.size X u → Calls Try.prog 18 #[.agg #[.slice A1 n1 c1]] u (RowsSaid (gsM G1) u)) := Lib.hid (fun u h => rows_any A1 n1 c1 G1 u (HP1.out u h) HNC.out)
            have p6 := (HF6.out _ GB).cell 0
            have p7 := (HF7.out _ GB).cell 0
            have p8 := (HF8.out _ GB).cell 0
            go_wp2_with fail
            refine (HRx.out _ GB).mono ?_
            rintro e w2 ⟨rfl, h2⟩
            replace GB := GB.trans (h2.mono GB.size)
            clear h2 p6 p7 p8
            have p6 := (HF6.out _ GB).cell 0
            have p7 := (HF7.out _ GB).cell 0
            have p8 := (HF8.out _ GB).cell 0
            go_wp2_with fail
            refine (HCx.out _ GB).mono ?_
            rintro e w3 ⟨rfl, h2⟩
            replace GB := GB.trans (h2.mono GB.size)
            clear h2 p6 p7 p8
            have p6 := (HF6.out _ GB).cell 0
            have p7 := (HF7.out _ GB).cell 0
            have p8 := (HF8.out _ GB).cell 0
            clear p6 p7 p8 HRx HCx
            go_upto_region 10 with fail
            replace GB := GB.drew
            go_cut [67] (fun s67 wx => s67 = .bool false ∧ Below X.heap.size X wx)
            case first =>
              as_aux_lemma =>
                refine wp_region_held_drew (S := fun W => Below X.heap.size X W) (by kernel_rfl) GB (fun hS => ?_)
                generalize w3.drew = V at GB hS ⊢
                refine wpAnyH_take (i := 0) (v := .int .i64 240) rfl (by kernel_rfl) (by kernel_rfl) (by kernel_rfl) (fun _ _ _ h => h) (Or.inl ⟨by kernel_rfl, fun u hSw => (by go_simp)⟩) hS ?_
                change wpAnyH _ _ _ _ _ _ _ (Act.put _ (some 40) _) _
                simp only [Act.put]
                try simp only [List.setIfInBounds_toArray, List.set_cons_zero, List.set_cons_succ]
                refine wpAnyH_take (i := 1) (v := .bool false) rfl (by kernel_rfl) (by kernel_rfl) (by kernel_rfl) (fun _ _ _ h => h) (Or.inl ⟨by kernel_rfl, fun u hSw => (by go_simp)⟩) hS ?_
                change wpAnyH _ _ _ _ _ _ _ (Act.put _ (some 41) _) _
                simp only [Act.put]
                try simp only [List.setIfInBounds_toArray, List.set_cons_zero, List.set_cons_succ]
                refine wpAnyH_take (i := 2) (v := .bool false) rfl (by kernel_rfl) (by kernel_rfl) (by kernel_rfl) (fun _ _ _ h => h) (Or.inl ⟨by kernel_rfl, fun u hSw => (by go_simp)⟩) hS ?_
                change wpAnyH _ _ _ _ _ _ _ (Act.put _ (some 42) _) _
                simp only [Act.put]
                try simp only [List.setIfInBounds_toArray, List.set_cons_zero, List.set_cons_succ]
                refine wpAnyH_take (i := 3) (v := .bool false) rfl (by kernel_rfl) (by kernel_rfl) (by kernel_rfl) (fun _ _ _ h => h) (Or.inl ⟨by kernel_rfl, fun u hSw => (by go_simp)⟩) hS ?_
                change wpAnyH _ _ _ _ _ _ _ (Act.put _ (some 43) _) _
                simp only [Act.put]
                try simp only [List.setIfInBounds_toArray, List.set_cons_zero, List.set_cons_succ]
                refine wpAnyH_take (i := 4) (v := .bool false) rfl (by kernel_rfl) (by kernel_rfl) (by kernel_rfl) (fun _ _ _ h => h) (Or.inl ⟨by kernel_rfl, fun u hSw => (by go_simp)⟩) hS ?_
                change wpAnyH _ _ _ _ _ _ _ (Act.put _ (some 44) _) _
                simp only [Act.put]
                try simp only [List.setIfInBounds_toArray, List.set_cons_zero, List.set_cons_succ]
                refine wpAnyH_take (i := 5) (v := .bool false) rfl (by kernel_rfl) (by kernel_rfl) (by kernel_rfl) (fun _ _ _ h => h) (Or.inl ⟨by kernel_rfl, fun u hSw => (by go_simp)⟩) hS ?_
                change wpAnyH _ _ _ _ _ _ _ (Act.put _ (some 45) _) _
                simp only [Act.put]
                try simp only [List.setIfInBounds_toArray, List.set_cons_zero, List.set_cons_succ]
                refine wpAnyH_take (i := 6) (v := .bool true) rfl (by kernel_rfl) (by kernel_rfl) (by kernel_rfl) (fun _ _ _ h => h) (Or.inl ⟨by kernel_rfl, fun u hSw => (by go_simp)⟩) hS ?_
                change wpAnyH _ _ _ _ _ _ _ (Act.put _ (some 46) _) _
                simp only [Act.put]
                try simp only [List.setIfInBounds_toArray, List.set_cons_zero, List.set_cons_succ]
                refine wpAnyH_take (i := 7) (v := .bool true) rfl (by kernel_rfl) (by kernel_rfl) (by kernel_rfl) (fun _ _ _ h => h) (Or.inl ⟨by kernel_rfl, fun u hSw => (by go_simp)⟩) hS ?_
                change wpAnyH _ _ _ _ _ _ _ (Act.put _ (some 47) _) _
                simp only [Act.put]
                try simp only [List.setIfInBounds_toArray, List.set_cons_zero, List.set_cons_succ]
                refine wpAnyH_take (i := 8) (v := .int .i64 240) rfl (by kernel_rfl) (by kernel_rfl) (by kernel_rfl) (fun _ _ _ h => h) (Or.inl ⟨by kernel_rfl, fun u hSw => (by go_simp)⟩) hS ?_
                change wpAnyH _ _ _ _ _ _ _ (Act.put _ (some 48) _) _
                simp only [Act.put]
                try simp only [List.setIfInBounds_toArray, List.set_cons_zero, List.set_cons_succ]
                refine wpAnyH_take (i := 9) (v := .bool false) rfl (by kernel_rfl) (by kernel_rfl) (by kernel_rfl) (fun _ _ _ h => h) (Or.inl ⟨by kernel_rfl, fun u hSw => (by go_simp)⟩) hS ?_
                change wpAnyH _ _ _ _ _ _ _ (Act.put _ (some 49) _) _
                simp only [Act.put]
                try simp only [List.setIfInBounds_toArray, List.set_cons_zero, List.set_cons_succ]
                refine wpAnyH_take (i := 10) (v := .bool false) rfl (by kernel_rfl) (by kernel_rfl) (by kernel_rfl) (fun _ _ _ h => h) (Or.inl ⟨by kernel_rfl, fun u hSw => (by go_simp)⟩) hS ?_
                change wpAnyH _ _ _ _ _ _ _ (Act.put _ (some 50) _) _
                simp only [Act.put]
                try simp only [List.setIfInBounds_toArray, List.set_cons_zero, List.set_cons_succ]
                refine wpAnyH_take (i := 11) (v := .bool false) rfl (by kernel_rfl) (by kernel_rfl) (by kernel_rfl) (fun _ _ _ h => h) (Or.inl ⟨by kernel_rfl, fun u hSw => (by go_simp)⟩) hS ?_
                change wpAnyH _ _ _ _ _ _ _ (Act.put _ (some 51) _) _
                simp only [Act.put]
                try simp only [List.setIfInBounds_toArray, List.set_cons_zero, List.set_cons_succ]
                refine wpAnyH_take (i := 12) (v := .bool false) rfl (by kernel_rfl) (by kernel_rfl) (by kernel_rfl) (fun _ _ _ h => h) (Or.inl ⟨by kernel_rfl, fun u hSw => (by go_simp)⟩) hS ?_
                change wpAnyH _ _ _ _ _ _ _ (Act.put _ (some 52) _) _
                simp only [Act.put]
                try simp only [List.setIfInBounds_toArray, List.set_cons_zero, List.set_cons_succ]
                refine wpAnyH_take (i := 13) (v := .agg #[.slice A1 n1 c1]) rfl (by kernel_rfl) (by kernel_rfl) (by kernel_rfl) (fun _ _ _ h => h) (Or.inl ⟨by kernel_rfl, fun u hSw => (by have q0 := (HF7.out u hSw).cell 0; go_simp)⟩) hS ?_
                change wpAnyH _ _ _ _ _ _ _ (Act.put _ (some 53) _) _
                simp only [Act.put]
                try simp only [List.setIfInBounds_toArray, List.set_cons_zero, List.set_cons_succ]
                refine wpAnyH_take (i := 14) (v := .agg #[.slice A2 n2 c2]) rfl (by kernel_rfl) (by kernel_rfl) (by kernel_rfl) (fun _ _ _ h => h) (Or.inl ⟨by kernel_rfl, fun u hSw => (by have q0 := (HF8.out u hSw).cell 0; go_simp)⟩) hS ?_
                change wpAnyH _ _ _ _ _ _ _ (Act.put _ (some 54) _) _
                simp only [Act.put]
                try simp only [List.setIfInBounds_toArray, List.set_cons_zero, List.set_cons_succ]
                refine wpAnyH_take (i := 16) (v := .agg #[.slice A1 n1 c1]) rfl (by kernel_rfl) (by kernel_rfl) (by kernel_rfl) (fun _ _ _ h => h) (Or.inl ⟨by kernel_rfl, fun u hSw => (by have q0 := (HF7.out u hSw).cell 0; go_simp)⟩) hS ?_
                change wpAnyH _ _ _ _ _ _ _ (Act.put _ (some 56) _) _
                simp only [Act.put]
                try simp only [List.setIfInBounds_toArray, List.set_cons_zero, List.set_cons_succ]
                refine wpAnyH_take (i := 17) (v := .agg #[.slice A2 n2 c2]) rfl (by kernel_rfl) (by kernel_rfl) (by kernel_rfl) (fun _ _ _ h => h) (Or.inl ⟨by kernel_rfl, fun u hSw => (by have q0 := (HF8.out u hSw).cell 0; go_simp)⟩) hS ?_
                change wpAnyH _ _ _ _ _ _ _ (Act.put _ (some 57) _) _
                simp only [Act.put]
                try simp only [List.setIfInBounds_toArray, List.set_cons_zero, List.set_cons_succ]
                refine wpAnyH_ready (rs := [15]) (by kernel_rfl) (by simp) ?_
                refine AllReadyH.cons rfl (fun K hK => ?_) AllReadyH.nil
                go_simp
                refine (HSm.out _ GB).mono ?_
                rintro e1 w1 ⟨rfl, h2⟩
                replace GB := GB.trans (h2.mono GB.size)
                clear h2
                refine hK.out _ _ GB (fun hS => ?_)
                clear hK K
                refine wpAnyH_ready (rs := [18]) (by kernel_rfl) (by simp) ?_
                refine AllReadyH.cons rfl (fun K hK => ?_) AllReadyH.nil
                go_simp
                refine (HSr.out _ GB).mono ?_
                rintro e2 w2 ⟨rfl, h2⟩
                replace GB := GB.trans (h2.mono GB.size)
                clear h2
                refine hK.out _ _ GB (fun hS => ?_)
                clear hK K
                refine wpAnyH_take (i := 19) (v := .bool false) rfl (by kernel_rfl) (by kernel_rfl) (by kernel_rfl) (fun _ _ _ h => h) (Or.inl ⟨by kernel_rfl, fun u hSw => (by first | (go_simp; done) | (go_simp; simp) | (go_simp; cases sm <;> rfl))⟩) hS ?_
                change wpAnyH _ _ _ _ _ _ _ (Act.put _ (some 59) _) _
                simp only [Act.put]
                try simp only [List.setIfInBounds_toArray, List.set_cons_zero, List.set_cons_succ]
                refine wpAnyH_take (i := 20) (v := .bool false) rfl (by kernel_rfl) (by kernel_rfl) (by kernel_rfl) (fun _ _ _ h => h) (Or.inl ⟨by kernel_rfl, fun u hSw => (by go_simp)⟩) hS ?_
                change wpAnyH _ _ _ _ _ _ _ (Act.put _ (some 60) _) _
                simp only [Act.put]
                try simp only [List.setIfInBounds_toArray, List.set_cons_zero, List.set_cons_succ]
                refine wpAnyH_take (i := 21) (v := .bool false) rfl (by kernel_rfl) (by kernel_rfl) (by kernel_rfl) (fun _ _ _ h => h) (Or.inl ⟨by kernel_rfl, fun u hSw => (by go_simp)⟩) hS ?_
                change wpAnyH _ _ _ _ _ _ _ (Act.put _ (some 61) _) _
                simp only [Act.put]
                try simp only [List.setIfInBounds_toArray, List.set_cons_zero, List.set_cons_succ]
                refine wpAnyH_take (i := 22) (v := .agg #[.slice A1 n1 c1]) rfl (by kernel_rfl) (by kernel_rfl) (by kernel_rfl) (fun _ _ _ h => h) (Or.inl ⟨by kernel_rfl, fun u hSw => (by have q0 := (HF7.out u hSw).cell 0; go_simp)⟩) hS ?_
                change wpAnyH _ _ _ _ _ _ _ (Act.put _ (some 62) _) _
                simp only [Act.put]
                try simp only [List.setIfInBounds_toArray, List.set_cons_zero, List.set_cons_succ]
                refine wpAnyH_take (i := 23) (v := .agg #[.slice Ax nx cx]) rfl (by kernel_rfl) (by kernel_rfl) (by kernel_rfl) (fun _ _ _ h => h) (Or.inl ⟨by kernel_rfl, fun u hSw => (by have q0 := (HF6.out u hSw).cell 0; go_simp)⟩) hS ?_
                change wpAnyH _ _ _ _ _ _ _ (Act.put _ (some 63) _) _
                simp only [Act.put]
                try simp only [List.setIfInBounds_toArray, List.set_cons_zero, List.set_cons_succ]
                refine wpAnyH_ready (rs := [24]) (by kernel_rfl) (by simp) ?_
                refine AllReadyH.cons rfl (fun K hK => ?_) AllReadyH.nil
                go_simp
                refine (HSx.out _ GB).mono ?_
                rintro e3 w3 ⟨A3, n3, c3, G3, rfl, O3, E3, hn3, hm3, h2⟩
                replace GB := GB.trans (h2.mono GB.size)
                have hA3 := Lib.hid (And.intro (short_nw O3 hn3 hm3) (And.intro E3 GB))
                clear O3 E3 hn3 hm3
                clear h2
                refine hK.out _ _ GB (fun hS => ?_)
                clear hK K
                refine wpAnyH_ready (rs := [25]) (by kernel_rfl) (by simp) ?_
                refine AllReadyH.cons rfl (fun K hK => ?_) AllReadyH.nil
                go_simp
                refine (HSs.out A3 n3 c3 G3 _ hA3.out).mono ?_
                rintro e4 w4 ⟨rfl, h2⟩
                replace GB := GB.trans (h2.mono GB.size)
                clear hA3
                clear h2
                refine hK.out _ _ GB (fun hS => ?_)
                clear hK K
                refine wpAnyH_take (i := 26) (v := .bool false) rfl (by kernel_rfl) (by kernel_rfl) (by kernel_rfl) (fun _ _ _ h => h) (Or.inl ⟨by kernel_rfl, fun u hSw => (by go_simp)⟩) hS ?_
                change wpAnyH _ _ _ _ _ _ _ (Act.put _ (some 66) _) _
                simp only [Act.put]
                try simp only [List.setIfInBounds_toArray, List.set_cons_zero, List.set_cons_succ]
                refine wpAnyH_take (i := 27) (v := .bool false) rfl (by kernel_rfl) (by kernel_rfl) (by kernel_rfl) (fun _ _ _ h => h) (Or.inl ⟨by kernel_rfl, fun u hSw => (by go_simp)⟩) hS ?_
                change wpAnyH _ _ _ _ _ _ _ (Act.put _ (some 67) _) _
                simp only [Act.put]
                try simp only [List.setIfInBounds_toArray, List.set_cons_zero, List.set_cons_succ]
                refine wpAnyH_done (by kernel_rfl) ?_ _
                clear hS
                go_wp2_with fail
                try go_simp
                go_meet
                exact ⟨rfl, GB⟩
            case rest =>
              clear GB HSm HSr HSs HSx
              obtain ⟨rfl, GB⟩ := hcut
              have p6 := (HF6.out _ GB).cell 0
              have p7 := (HF7.out _ GB).cell 0
              have p8 := (HF8.out _ GB).cell 0
              go_wp2_with fail
              refine (HRo.out _ GB).mono ?_
              rintro e wY ⟨AR, nR, cR, GR, rfl, hR9, OR, ER, mR, h2⟩
              replace GB := GB.trans (h2.mono GB.size)
              have HRL : Hid (nR = 0) := Lib.hid (rows_none OR.len ER hr)
              have HR9 := Lib.hid hR9
              have HGRL := Lib.hid OR.len
              have HGR : Hid (GW wY AR nR GR) := Lib.hid (gw_rows OR hR9 mR)
              clear hR9 OR ER mR
              clear h2 p6 p7 p8
              have p6 := (HF6.out _ GB).cell 0
              have p7 := (HF7.out _ GB).cell 0
              have p8 := (HF8.out _ GB).cell 0
              clear HRo
              have e7 : ((nR : Int) != 0) = false := by have := HRL.out; simp; omega
              go_wp2_with fail
              clear p6 p7 p8 e7
              obtain rfl : nR = 0 := by have := HRL.out; omega
              go_loopw [90] (fun iv wr => ∃ q : Nat, q ≤ 0 ∧ iv = .int .i64 (q : Int) ∧ Below X.heap.size X wr) (fun iv _ => 0 - (intOf iv).toNat)
              case atStart => exact ⟨0, by omega, rfl, GB⟩
              case round =>
                clear GB
                obtain ⟨q, hq, rfl, GB⟩ := hrel
                have l3 : decide ((q : Int) < ((0 : Nat) : Int)) = false := decide_eq_false (by omega)
                have l4 : ¬ (q : Int) < 0 := by omega
                go_wp2_with fail
                go_loopw [108] (fun iv wr => ∃ i : Nat, i ≤ n' ∧ i ≤ 12 ∧ iv = .int .i64 (i : Int) ∧ Below X.heap.size X wr) (fun iv _ => n' - (intOf iv).toNat)
                case atStart => exact ⟨0, by omega, by omega, rfl, GB⟩
                case round =>
                  clear GB
                  obtain ⟨i, hi, hi12, rfl, GB⟩ := hrel
                  by_cases him : i < n'
                  · obtain ⟨v, hv3⟩ := elem_at (l := cs) (k := i) (by rw [HLC.out]; exact him)
                    obtain ⟨ad3, rfl, hc3⟩ := ints_at (HR'.out _ (HBw.out _ GB)) hv3
                    have k2 : (0 : Int) ≤ (i : Int) := by omega
                    have k3 : (i : Int) < (n' : Int) := by omega
                    have l7 : decide ((i : Int) < (n' : Int)) = true := decide_eq_true k3
                    clear hv3
                    by_cases h12 : i = 12
                    · have e12 : ((i : Int) == 12) = true := by simp; omega
                      have HBf := Lib.hid (HBw.out _ GB)
                      clear h12 hi12
                      go_wp2_with fail
                      go_roundw
                      case rel => exact ⟨k + 1, HJ.out.1, HJ.out.2, by go_num, HBf.out⟩
                      case measure => have := HJ.out.1; simp [intOf]; omega
                    · have e12 : ((i : Int) == 12) = false := by simp; omega
                      have HI := Lib.hid (show i + 1 ≤ n' ∧ i + 1 ≤ 12 by omega)
                      have i9 : i < 100 := by omega
                      clear h12 hi12 hi him
                      have HOf1 : Hid (∀ u, Below X.heap.size X u → Calls Try.prog 20 #[.agg #[.slice A1 n1 c1], .int .i64 v] u (Said (.tuple #[.int .i64 0, .bool false]) u)) := Lib.hid (fun u h => by
                        have := of_any2 A1 n1 c1 G1 v u (HP1.out u h) HNC.out
                        rwa [of_none (fnd_bad hr)] at this)
                      have HMe1 : Hid (∀ u, Below X.heap.size X u → Calls Try.prog 23 #[.agg #[.slice A1 n1 c1], .int .i64 v] u (OwnsI [] u)) := Lib.hid (fun u h => by
                        have := members2_any A1 n1 c1 G1 v u (HP1.out u h) HNC.out
                        rwa [mem_bad hr] at this)
                      have p6 := (HF6.out _ GB).cell 0
                      have p7 := (HF7.out _ GB).cell 0
                      have p8 := (HF8.out _ GB).cell 0
                      go_wp2_with fail
                      refine (HOf1.out _ GB).mono ?_
                      rintro e w5 ⟨rfl, h2⟩
                      replace GB := GB.trans (h2.mono GB.size)
                      clear h2 p6 p7 p8
                      have p6 := (HF6.out _ GB).cell 0
                      have p7 := (HF7.out _ GB).cell 0
                      have p8 := (HF8.out _ GB).cell 0
                      go_wp2_with fail
                      refine (HMe1.out _ GB).mono ?_
                      rintro e w6 ⟨A6, n6, c6, rfl, O6, h2⟩
                      replace GB := GB.trans (h2.mono GB.size)
                      have HSi := Lib.hid (sames_any A6 n6 c6 [] none 0 0 [] w6 ⟨Reads.of_own O6, by have := O6.1; rw [length_vs] at this; simp at this; omega⟩ ir_none)
                      rw [decide_eq_true (rfl : ([] : List Int) = [])] at HSi
                      clear O6
                      clear h2 p6 p7 p8
                      have p6 := (HF6.out _ GB).cell 0
                      have p7 := (HF7.out _ GB).cell 0
                      have p8 := (HF8.out _ GB).cell 0
                      go_wp2_with fail
                      refine (HSi.out).mono ?_
                      rintro e w7 ⟨rfl, h2⟩
                      replace GB := GB.trans (h2.mono GB.size)
                      clear h2 p6 p7 p8
                      skip
                      clear HOf1 HMe1 HSi
                      go_wp2_with fail
                      go_roundw
                      case rel => exact ⟨i + 1, HI.out.1, HI.out.2, by go_num, GB⟩
                      case measure => have := HI.out.1; simp [intOf]; omega
                  · obtain rfl : n' = i := by omega
                    have l7 : decide ((n' : Int) < (n' : Int)) = false := decide_eq_false (by omega)
                    have HBf := Lib.hid (HBw.out _ GB)
                    clear hi12
                    go_wp2_with fail
                    go_roundw
                    case rel => exact ⟨k + 1, HJ.out.1, HJ.out.2, by go_num, HBf.out⟩
                    case measure => have := HJ.out.1; simp [intOf]; omega
          | true =>
            have HRx : Hid (∀ u, Below X.heap.size X u → Calls Try.prog 15 #[.agg #[.slice A1 n1 c1]] u (Said (.bool true) u)) := Lib.hid (fun u h => by
              have := dright_any A1 n1 c1 G1 u (HP1.out u h) HNC.out
              rwa [hr] at this)
            have HCx : Hid (∀ u, Below X.heap.size X u → Calls Try.prog 16 #[.agg #[.slice A1 n1 c1]] u (Said (.int .i64 0) u)) := Lib.hid (fun u h => by
              have := gcheck_any A1 n1 c1 G1 u (HP1.out u h) HNC.out
              unfold chkG at this
              rw [hr] at this
              exact this)
            have HRo : Hid (∀ u, Below X.heap.size X u → Calls Try.prog 18 #[.agg #[.slice A1 n1 c1]] u (RowsSaid (gsM G1) u)) := Lib.hid (fun u h => rows_any A1 n1 c1 G1 u (HP1.out u h) HNC.out)
            have p6 := (HF6.out _ GB).cell 0
            have p7 := (HF7.out _ GB).cell 0
            have p8 := (HF8.out _ GB).cell 0
            go_wp2_with fail
            refine (HRx.out _ GB).mono ?_
            rintro e w2 ⟨rfl, h2⟩
            replace GB := GB.trans (h2.mono GB.size)
            clear h2 p6 p7 p8
            have p6 := (HF6.out _ GB).cell 0
            have p7 := (HF7.out _ GB).cell 0
            have p8 := (HF8.out _ GB).cell 0
            go_wp2_with fail
            refine (HCx.out _ GB).mono ?_
            rintro e w3 ⟨rfl, h2⟩
            replace GB := GB.trans (h2.mono GB.size)
            clear h2 p6 p7 p8
            have p6 := (HF6.out _ GB).cell 0
            have p7 := (HF7.out _ GB).cell 0
            have p8 := (HF8.out _ GB).cell 0
            clear p6 p7 p8 HRx HCx
            go_upto_region 10 with fail
            replace GB := GB.drew
            go_cut [67] (fun s67 wx => s67 = .bool false ∧ Below X.heap.size X wx)
            case first =>
              as_aux_lemma =>
                refine wp_region_held_drew (S := fun W => Below X.heap.size X W) (by kernel_rfl) GB (fun hS => ?_)
                generalize w3.drew = V at GB hS ⊢
                refine wpAnyH_take (i := 0) (v := .int .i64 0) rfl (by kernel_rfl) (by kernel_rfl) (by kernel_rfl) (fun _ _ _ h => h) (Or.inl ⟨by kernel_rfl, fun u hSw => (by go_simp)⟩) hS ?_
                change wpAnyH _ _ _ _ _ _ _ (Act.put _ (some 40) _) _
                simp only [Act.put]
                try simp only [List.setIfInBounds_toArray, List.set_cons_zero, List.set_cons_succ]
                refine wpAnyH_take (i := 1) (v := .bool true) rfl (by kernel_rfl) (by kernel_rfl) (by kernel_rfl) (fun _ _ _ h => h) (Or.inl ⟨by kernel_rfl, fun u hSw => (by go_simp)⟩) hS ?_
                change wpAnyH _ _ _ _ _ _ _ (Act.put _ (some 41) _) _
                simp only [Act.put]
                try simp only [List.setIfInBounds_toArray, List.set_cons_zero, List.set_cons_succ]
                refine wpAnyH_take (i := 2) (v := .bool true) rfl (by kernel_rfl) (by kernel_rfl) (by kernel_rfl) (fun _ _ _ h => h) (Or.inl ⟨by kernel_rfl, fun u hSw => (by go_simp)⟩) hS ?_
                change wpAnyH _ _ _ _ _ _ _ (Act.put _ (some 42) _) _
                simp only [Act.put]
                try simp only [List.setIfInBounds_toArray, List.set_cons_zero, List.set_cons_succ]
                refine wpAnyH_take (i := 3) (v := .bool false) rfl (by kernel_rfl) (by kernel_rfl) (by kernel_rfl) (fun _ _ _ h => h) (Or.inl ⟨by kernel_rfl, fun u hSw => (by go_simp)⟩) hS ?_
                change wpAnyH _ _ _ _ _ _ _ (Act.put _ (some 43) _) _
                simp only [Act.put]
                try simp only [List.setIfInBounds_toArray, List.set_cons_zero, List.set_cons_succ]
                refine wpAnyH_take (i := 4) (v := .bool false) rfl (by kernel_rfl) (by kernel_rfl) (by kernel_rfl) (fun _ _ _ h => h) (Or.inl ⟨by kernel_rfl, fun u hSw => (by go_simp)⟩) hS ?_
                change wpAnyH _ _ _ _ _ _ _ (Act.put _ (some 44) _) _
                simp only [Act.put]
                try simp only [List.setIfInBounds_toArray, List.set_cons_zero, List.set_cons_succ]
                refine wpAnyH_take (i := 5) (v := .bool true) rfl (by kernel_rfl) (by kernel_rfl) (by kernel_rfl) (fun _ _ _ h => h) (Or.inl ⟨by kernel_rfl, fun u hSw => (by go_simp)⟩) hS ?_
                change wpAnyH _ _ _ _ _ _ _ (Act.put _ (some 45) _) _
                simp only [Act.put]
                try simp only [List.setIfInBounds_toArray, List.set_cons_zero, List.set_cons_succ]
                refine wpAnyH_take (i := 6) (v := .bool false) rfl (by kernel_rfl) (by kernel_rfl) (by kernel_rfl) (fun _ _ _ h => h) (Or.inl ⟨by kernel_rfl, fun u hSw => (by go_simp)⟩) hS ?_
                change wpAnyH _ _ _ _ _ _ _ (Act.put _ (some 46) _) _
                simp only [Act.put]
                try simp only [List.setIfInBounds_toArray, List.set_cons_zero, List.set_cons_succ]
                refine wpAnyH_take (i := 7) (v := .bool false) rfl (by kernel_rfl) (by kernel_rfl) (by kernel_rfl) (fun _ _ _ h => h) (Or.inl ⟨by kernel_rfl, fun u hSw => (by go_simp)⟩) hS ?_
                change wpAnyH _ _ _ _ _ _ _ (Act.put _ (some 47) _) _
                simp only [Act.put]
                try simp only [List.setIfInBounds_toArray, List.set_cons_zero, List.set_cons_succ]
                refine wpAnyH_take (i := 8) (v := undef) rfl (by kernel_rfl) (by kernel_rfl) (by kernel_rfl) (fun _ _ _ h => h) (Or.inr ⟨by kernel_rfl, rfl⟩) hS ?_
                change wpAnyH _ _ _ _ _ _ _ (Act.put _ (some 48) _) _
                simp only [Act.put]
                try simp only [List.setIfInBounds_toArray, List.set_cons_zero, List.set_cons_succ]
                refine wpAnyH_take (i := 9) (v := undef) rfl (by kernel_rfl) (by kernel_rfl) (by kernel_rfl) (fun _ _ _ h => h) (Or.inr ⟨by kernel_rfl, rfl⟩) hS ?_
                change wpAnyH _ _ _ _ _ _ _ (Act.put _ (some 49) _) _
                simp only [Act.put]
                try simp only [List.setIfInBounds_toArray, List.set_cons_zero, List.set_cons_succ]
                refine wpAnyH_take (i := 10) (v := .bool false) rfl (by kernel_rfl) (by kernel_rfl) (by kernel_rfl) (fun _ _ _ h => h) (Or.inl ⟨by kernel_rfl, fun u hSw => (by go_simp)⟩) hS ?_
                change wpAnyH _ _ _ _ _ _ _ (Act.put _ (some 50) _) _
                simp only [Act.put]
                try simp only [List.setIfInBounds_toArray, List.set_cons_zero, List.set_cons_succ]
                refine wpAnyH_take (i := 11) (v := .bool false) rfl (by kernel_rfl) (by kernel_rfl) (by kernel_rfl) (fun _ _ _ h => h) (Or.inl ⟨by kernel_rfl, fun u hSw => (by go_simp)⟩) hS ?_
                change wpAnyH _ _ _ _ _ _ _ (Act.put _ (some 51) _) _
                simp only [Act.put]
                try simp only [List.setIfInBounds_toArray, List.set_cons_zero, List.set_cons_succ]
                refine wpAnyH_take (i := 12) (v := .bool false) rfl (by kernel_rfl) (by kernel_rfl) (by kernel_rfl) (fun _ _ _ h => h) (Or.inl ⟨by kernel_rfl, fun u hSw => (by go_simp)⟩) hS ?_
                change wpAnyH _ _ _ _ _ _ _ (Act.put _ (some 52) _) _
                simp only [Act.put]
                try simp only [List.setIfInBounds_toArray, List.set_cons_zero, List.set_cons_succ]
                refine wpAnyH_take (i := 13) (v := .agg #[.slice A1 n1 c1]) rfl (by kernel_rfl) (by kernel_rfl) (by kernel_rfl) (fun _ _ _ h => h) (Or.inl ⟨by kernel_rfl, fun u hSw => (by have q0 := (HF7.out u hSw).cell 0; go_simp)⟩) hS ?_
                change wpAnyH _ _ _ _ _ _ _ (Act.put _ (some 53) _) _
                simp only [Act.put]
                try simp only [List.setIfInBounds_toArray, List.set_cons_zero, List.set_cons_succ]
                refine wpAnyH_take (i := 14) (v := .agg #[.slice A2 n2 c2]) rfl (by kernel_rfl) (by kernel_rfl) (by kernel_rfl) (fun _ _ _ h => h) (Or.inl ⟨by kernel_rfl, fun u hSw => (by have q0 := (HF8.out u hSw).cell 0; go_simp)⟩) hS ?_
                change wpAnyH _ _ _ _ _ _ _ (Act.put _ (some 54) _) _
                simp only [Act.put]
                try simp only [List.setIfInBounds_toArray, List.set_cons_zero, List.set_cons_succ]
                refine wpAnyH_take (i := 16) (v := .agg #[.slice A1 n1 c1]) rfl (by kernel_rfl) (by kernel_rfl) (by kernel_rfl) (fun _ _ _ h => h) (Or.inl ⟨by kernel_rfl, fun u hSw => (by have q0 := (HF7.out u hSw).cell 0; go_simp)⟩) hS ?_
                change wpAnyH _ _ _ _ _ _ _ (Act.put _ (some 56) _) _
                simp only [Act.put]
                try simp only [List.setIfInBounds_toArray, List.set_cons_zero, List.set_cons_succ]
                refine wpAnyH_take (i := 17) (v := .agg #[.slice A2 n2 c2]) rfl (by kernel_rfl) (by kernel_rfl) (by kernel_rfl) (fun _ _ _ h => h) (Or.inl ⟨by kernel_rfl, fun u hSw => (by have q0 := (HF8.out u hSw).cell 0; go_simp)⟩) hS ?_
                change wpAnyH _ _ _ _ _ _ _ (Act.put _ (some 57) _) _
                simp only [Act.put]
                try simp only [List.setIfInBounds_toArray, List.set_cons_zero, List.set_cons_succ]
                refine wpAnyH_ready (rs := [15]) (by kernel_rfl) (by simp) ?_
                refine AllReadyH.cons rfl (fun K hK => ?_) AllReadyH.nil
                go_simp
                refine (HSm.out _ GB).mono ?_
                rintro e1 w1 ⟨rfl, h2⟩
                replace GB := GB.trans (h2.mono GB.size)
                clear h2
                refine hK.out _ _ GB (fun hS => ?_)
                clear hK K
                refine wpAnyH_ready (rs := [18]) (by kernel_rfl) (by simp) ?_
                refine AllReadyH.cons rfl (fun K hK => ?_) AllReadyH.nil
                go_simp
                refine (HSr.out _ GB).mono ?_
                rintro e2 w2 ⟨rfl, h2⟩
                replace GB := GB.trans (h2.mono GB.size)
                clear h2
                refine hK.out _ _ GB (fun hS => ?_)
                clear hK K
                refine wpAnyH_take (i := 19) (v := .bool false) rfl (by kernel_rfl) (by kernel_rfl) (by kernel_rfl) (fun _ _ _ h => h) (Or.inl ⟨by kernel_rfl, fun u hSw => (by first | (go_simp; done) | (go_simp; simp) | (go_simp; cases sm <;> rfl))⟩) hS ?_
                change wpAnyH _ _ _ _ _ _ _ (Act.put _ (some 59) _) _
                simp only [Act.put]
                try simp only [List.setIfInBounds_toArray, List.set_cons_zero, List.set_cons_succ]
                refine wpAnyH_take (i := 20) (v := .bool false) rfl (by kernel_rfl) (by kernel_rfl) (by kernel_rfl) (fun _ _ _ h => h) (Or.inl ⟨by kernel_rfl, fun u hSw => (by go_simp)⟩) hS ?_
                change wpAnyH _ _ _ _ _ _ _ (Act.put _ (some 60) _) _
                simp only [Act.put]
                try simp only [List.setIfInBounds_toArray, List.set_cons_zero, List.set_cons_succ]
                refine wpAnyH_take (i := 21) (v := .bool false) rfl (by kernel_rfl) (by kernel_rfl) (by kernel_rfl) (fun _ _ _ h => h) (Or.inl ⟨by kernel_rfl, fun u hSw => (by go_simp)⟩) hS ?_
                change wpAnyH _ _ _ _ _ _ _ (Act.put _ (some 61) _) _
                simp only [Act.put]
                try simp only [List.setIfInBounds_toArray, List.set_cons_zero, List.set_cons_succ]
                refine wpAnyH_take (i := 22) (v := .agg #[.slice A1 n1 c1]) rfl (by kernel_rfl) (by kernel_rfl) (by kernel_rfl) (fun _ _ _ h => h) (Or.inl ⟨by kernel_rfl, fun u hSw => (by have q0 := (HF7.out u hSw).cell 0; go_simp)⟩) hS ?_
                change wpAnyH _ _ _ _ _ _ _ (Act.put _ (some 62) _) _
                simp only [Act.put]
                try simp only [List.setIfInBounds_toArray, List.set_cons_zero, List.set_cons_succ]
                refine wpAnyH_take (i := 23) (v := .agg #[.slice Ax nx cx]) rfl (by kernel_rfl) (by kernel_rfl) (by kernel_rfl) (fun _ _ _ h => h) (Or.inl ⟨by kernel_rfl, fun u hSw => (by have q0 := (HF6.out u hSw).cell 0; go_simp)⟩) hS ?_
                change wpAnyH _ _ _ _ _ _ _ (Act.put _ (some 63) _) _
                simp only [Act.put]
                try simp only [List.setIfInBounds_toArray, List.set_cons_zero, List.set_cons_succ]
                refine wpAnyH_ready (rs := [24]) (by kernel_rfl) (by simp) ?_
                refine AllReadyH.cons rfl (fun K hK => ?_) AllReadyH.nil
                go_simp
                refine (HSx.out _ GB).mono ?_
                rintro e3 w3 ⟨A3, n3, c3, G3, rfl, O3, E3, hn3, hm3, h2⟩
                replace GB := GB.trans (h2.mono GB.size)
                have hA3 := Lib.hid (And.intro (short_nw O3 hn3 hm3) (And.intro E3 GB))
                clear O3 E3 hn3 hm3
                clear h2
                refine hK.out _ _ GB (fun hS => ?_)
                clear hK K
                refine wpAnyH_ready (rs := [25]) (by kernel_rfl) (by simp) ?_
                refine AllReadyH.cons rfl (fun K hK => ?_) AllReadyH.nil
                go_simp
                refine (HSs.out A3 n3 c3 G3 _ hA3.out).mono ?_
                rintro e4 w4 ⟨rfl, h2⟩
                replace GB := GB.trans (h2.mono GB.size)
                clear hA3
                clear h2
                refine hK.out _ _ GB (fun hS => ?_)
                clear hK K
                refine wpAnyH_take (i := 26) (v := .bool false) rfl (by kernel_rfl) (by kernel_rfl) (by kernel_rfl) (fun _ _ _ h => h) (Or.inl ⟨by kernel_rfl, fun u hSw => (by go_simp)⟩) hS ?_
                change wpAnyH _ _ _ _ _ _ _ (Act.put _ (some 66) _) _
                simp only [Act.put]
                try simp only [List.setIfInBounds_toArray, List.set_cons_zero, List.set_cons_succ]
                refine wpAnyH_take (i := 27) (v := .bool false) rfl (by kernel_rfl) (by kernel_rfl) (by kernel_rfl) (fun _ _ _ h => h) (Or.inl ⟨by kernel_rfl, fun u hSw => (by go_simp)⟩) hS ?_
                change wpAnyH _ _ _ _ _ _ _ (Act.put _ (some 67) _) _
                simp only [Act.put]
                try simp only [List.setIfInBounds_toArray, List.set_cons_zero, List.set_cons_succ]
                refine wpAnyH_done (by kernel_rfl) ?_ _
                clear hS
                go_wp2_with fail
                try go_simp
                go_meet
                exact ⟨rfl, GB⟩
            case rest =>
              clear GB HSm HSr HSs HSx
              obtain ⟨rfl, GB⟩ := hcut
              have p6 := (HF6.out _ GB).cell 0
              have p7 := (HF7.out _ GB).cell 0
              have p8 := (HF8.out _ GB).cell 0
              go_wp2_with fail
              refine (HRo.out _ GB).mono ?_
              rintro e wY ⟨AR, nR, cR, GR, rfl, hR9, OR, ER, mR, h2⟩
              replace GB := GB.trans (h2.mono GB.size)
              have HRL : Hid (nR = n1) := Lib.hid (rows_len OR.len ER hr HL1.out)
              have HR9 := Lib.hid hR9
              have HGRL := Lib.hid OR.len
              have HGR : Hid (GW wY AR nR GR) := Lib.hid (gw_rows OR hR9 mR)
              have HIB := Lib.hid (rows_same ER hr)
              clear hR9 OR ER mR
              clear h2 p6 p7 p8
              have p6 := (HF6.out _ GB).cell 0
              have p7 := (HF7.out _ GB).cell 0
              have p8 := (HF8.out _ GB).cell 0
              clear HRo
              have e7 : ((nR : Int) != (n1 : Int)) = false := by have := HRL.out; simp; omega
              go_wp2_with fail
              clear p6 p7 p8 e7
              have HYX := Lib.hid (fun (u : World) (h : Below wY.heap.size wY u) => GB.trans (h.mono GB.size))
              go_loopw [90] (fun iv wr => ∃ q : Nat, q ≤ nR ∧ iv = .int .i64 (q : Int) ∧ Below wY.heap.size wY wr) (fun iv _ => nR - (intOf iv).toNat)
              case atStart => exact ⟨0, by omega, rfl, Below.refl _ _⟩
              case round =>
                clear GB
                obtain ⟨q, hq, rfl, GY⟩ := hrel
                by_cases hqn : q < nR
                · obtain ⟨⟨Am, mm, cm, im⟩, hgr⟩ := elem_at (l := GR) (k := q) (by rw [HGRL.out]; exact hqn)
                  obtain ⟨⟨id1, Bm, nm, dm, ib⟩, hg1⟩ := elem_at (l := G1) (k := q) (by rw [HL1.out]; have := HRL.out; omega)
                  have him : im = ib := HIB.out q _ _ hgr hg1
                  subst him
                  obtain ⟨aR, rfl, _, _⟩ := (HGR.out.below GY).at_ hgr
                  obtain ⟨a1, rfl, _, _, _⟩ := (HP1.out _ (HYX.out _ GY)).at_ hg1
                  have HRc : Hid (∀ u, Below wY.heap.size wY u → u.cell? (aR.add q) = some (.slice Am mm cm)) := Lib.hid (fun u h => by
                    obtain ⟨ad5, e5, _, h5⟩ := (HGR.out.below h).at_ hgr
                    obtain rfl := Option.some.inj e5
                    exact h5)
                  have HMc : Hid (∀ u, Below wY.heap.size wY u → u.cell? ⟨(a1.add (q * 2)).block, (a1.add (q * 2)).off + 1, none⟩ = some (.slice Bm nm dm)) := Lib.hid (fun u h => by
                    obtain ⟨ad5, e5, _, _, h5⟩ := (HP1.out _ (HYX.out _ h)).at_ hg1
                    obtain rfl := Option.some.inj e5
                    exact h5)
                  have HSi : Hid (∀ u, Below wY.heap.size wY u → Calls Try.prog 19 #[.slice Am mm cm, .slice Bm nm dm] u (Said (.bool true) u)) := Lib.hid (fun u h => by
                    have := sames_any Am mm cm im Bm nm dm im u ((HGR.out.below h).each _ (List.mem_of_getElem? hgr)).1 ((HP1.out _ (HYX.out _ h)).each _ (List.mem_of_getElem? hg1)).1
                    rwa [decide_eq_true rfl] at this)
                  have HQ := Lib.hid (show q + 1 ≤ nR by omega)
                  have q0 : (0 : Int) ≤ (q : Int) := by omega
                  have q1 : (q : Int) < (nR : Int) := by omega
                  have q2 : (q : Int) < (n1 : Int) := by have := HRL.out; omega
                  have l3 : decide ((q : Int) < (nR : Int)) = true := decide_eq_true q1
                  have q9 : q ≤ 100 := by have := HR9.out; omega
                  clear hgr hg1 hq hqn
                  go_upto_region 18 with fail
                  replace GY := GY.drew
                  refine wp_region_held_drew (S := fun W => Below wY.heap.size wY W) (by kernel_rfl) GY (fun hS => ?_)
                  generalize wr.drew = V at GY hS ⊢
                  refine wpAnyH_take (i := 0) (v := .slice (some aR) nR cR) rfl (by kernel_rfl) (by kernel_rfl) (by kernel_rfl) (fun _ _ _ h => h) (Or.inl ⟨by kernel_rfl, fun u hSw => (by go_simp)⟩) hS ?_
                  change wpAnyH _ _ _ _ _ _ _ (Act.put _ (some 93) _) _
                  simp only [Act.put]
                  try simp only [List.setIfInBounds_toArray, List.set_cons_zero, List.set_cons_succ]
                  refine wpAnyH_take (i := 1) (v := .int .i64 (q : Int)) rfl (by kernel_rfl) (by kernel_rfl) (by kernel_rfl) (fun _ _ _ h => h) (Or.inl ⟨by kernel_rfl, fun u hSw => (by go_simp)⟩) hS ?_
                  change wpAnyH _ _ _ _ _ _ _ (Act.put _ (some 94) _) _
                  simp only [Act.put]
                  try simp only [List.setIfInBounds_toArray, List.set_cons_zero, List.set_cons_succ]
                  refine wpAnyH_take (i := 2) (v := .pointer (some (aR.add q))) rfl (by kernel_rfl) (by kernel_rfl) (by kernel_rfl) (fun _ _ _ h => h) (Or.inl ⟨by kernel_rfl, fun u hSw => (by go_simp)⟩) hS ?_
                  change wpAnyH _ _ _ _ _ _ _ (Act.put _ (some 95) _) _
                  simp only [Act.put]
                  try simp only [List.setIfInBounds_toArray, List.set_cons_zero, List.set_cons_succ]
                  refine wpAnyH_take (i := 3) (v := .slice Am mm cm) rfl (by kernel_rfl) (by kernel_rfl) (by kernel_rfl) (fun _ _ _ h => h) (Or.inl ⟨by kernel_rfl, fun u hSw => (by have r0 := HRc.out u hSw; go_simp)⟩) hS ?_
                  change wpAnyH _ _ _ _ _ _ _ (Act.put _ (some 96) _) _
                  simp only [Act.put]
                  try simp only [List.setIfInBounds_toArray, List.set_cons_zero, List.set_cons_succ]
                  refine wpAnyH_take (i := 4) (v := .pointer (some ⟨g7, 0, none⟩)) rfl (by kernel_rfl) (by kernel_rfl) (by kernel_rfl) (fun _ _ _ h => h) (Or.inl ⟨by kernel_rfl, fun u hSw => (by go_simp)⟩) hS ?_
                  change wpAnyH _ _ _ _ _ _ _ (Act.put _ (some 97) _) _
                  simp only [Act.put]
                  try simp only [List.setIfInBounds_toArray, List.set_cons_zero, List.set_cons_succ]
                  refine wpAnyH_take (i := 5) (v := .slice (some a1) n1 c1) rfl (by kernel_rfl) (by kernel_rfl) (by kernel_rfl) (fun _ _ _ h => h) (Or.inl ⟨by kernel_rfl, fun u hSw => (by have q0 := (HF7.out u (HYX.out u hSw)).cell 0; go_simp)⟩) hS ?_
                  change wpAnyH _ _ _ _ _ _ _ (Act.put _ (some 98) _) _
                  simp only [Act.put]
                  try simp only [List.setIfInBounds_toArray, List.set_cons_zero, List.set_cons_succ]
                  refine wpAnyH_take (i := 6) (v := .int .i64 (q : Int)) rfl (by kernel_rfl) (by kernel_rfl) (by kernel_rfl) (fun _ _ _ h => h) (Or.inl ⟨by kernel_rfl, fun u hSw => (by go_simp)⟩) hS ?_
                  change wpAnyH _ _ _ _ _ _ _ (Act.put _ (some 99) _) _
                  simp only [Act.put]
                  try simp only [List.setIfInBounds_toArray, List.set_cons_zero, List.set_cons_succ]
                  refine wpAnyH_take (i := 7) (v := .pointer (some (a1.add (q * 2)))) rfl (by kernel_rfl) (by kernel_rfl) (by kernel_rfl) (fun _ _ _ h => h) (Or.inl ⟨by kernel_rfl, fun u hSw => (by go_simp)⟩) hS ?_
                  change wpAnyH _ _ _ _ _ _ _ (Act.put _ (some 100) _) _
                  simp only [Act.put]
                  try simp only [List.setIfInBounds_toArray, List.set_cons_zero, List.set_cons_succ]
                  refine wpAnyH_take (i := 8) (v := .pointer (some ⟨(a1.add (q * 2)).block, (a1.add (q * 2)).off + 1, none⟩)) rfl (by kernel_rfl) (by kernel_rfl) (by kernel_rfl) (fun _ _ _ h => h) (Or.inl ⟨by kernel_rfl, fun u hSw => (by go_simp)⟩) hS ?_
                  change wpAnyH _ _ _ _ _ _ _ (Act.put _ (some 101) _) _
                  simp only [Act.put]
                  try simp only [List.setIfInBounds_toArray, List.set_cons_zero, List.set_cons_succ]
                  refine wpAnyH_take (i := 9) (v := .slice Bm nm dm) rfl (by kernel_rfl) (by kernel_rfl) (by kernel_rfl) (fun _ _ _ h => h) (Or.inl ⟨by kernel_rfl, fun u hSw => (by have r1 := HMc.out u hSw; go_simp)⟩) hS ?_
                  change wpAnyH _ _ _ _ _ _ _ (Act.put _ (some 102) _) _
                  simp only [Act.put]
                  try simp only [List.setIfInBounds_toArray, List.set_cons_zero, List.set_cons_succ]
                  refine wpAnyH_ready (rs := [10]) (by kernel_rfl) (by simp) ?_
                  refine AllReadyH.cons rfl (fun K hK => ?_) AllReadyH.nil
                  go_simp
                  refine (HSi.out _ GY).mono ?_
                  rintro e1 w1 ⟨rfl, h2⟩
                  replace GY := GY.trans (h2.mono GY.size)
                  clear h2
                  refine hK.out _ _ GY (fun hS => ?_)
                  clear hK K
                  refine wpAnyH_take (i := 11) (v := .bool false) rfl (by kernel_rfl) (by kernel_rfl) (by kernel_rfl) (fun _ _ _ h => h) (Or.inl ⟨by kernel_rfl, fun u hSw => (by go_simp)⟩) hS ?_
                  change wpAnyH _ _ _ _ _ _ _ (Act.put _ (some 104) _) _
                  simp only [Act.put]
                  try simp only [List.setIfInBounds_toArray, List.set_cons_zero, List.set_cons_succ]
                  refine wpAnyH_done (by kernel_rfl) ?_ _
                  clear hS
                  go_wp2_with fail
                  go_roundw
                  case rel => exact ⟨q + 1, HQ.out, by go_num, GY⟩
                  case measure => have := HQ.out; simp [intOf] <;> omega
                · obtain rfl : nR = q := by omega
                  have l3 : decide ((nR : Int) < (nR : Int)) = false := decide_eq_false (by omega)
                  have GB := HYX.out _ GY
                  clear hq hqn GY
                  go_wp2_with fail
                  go_loopw [108] (fun iv wr => ∃ i : Nat, i ≤ n' ∧ i ≤ 12 ∧ iv = .int .i64 (i : Int) ∧ Below X.heap.size X wr) (fun iv _ => n' - (intOf iv).toNat)
                  case atStart => exact ⟨0, by omega, by omega, rfl, GB⟩
                  case round =>
                    clear GB
                    obtain ⟨i, hi, hi12, rfl, GB⟩ := hrel
                    by_cases him : i < n'
                    · obtain ⟨v, hv3⟩ := elem_at (l := cs) (k := i) (by rw [HLC.out]; exact him)
                      obtain ⟨ad3, rfl, hc3⟩ := ints_at (HR'.out _ (HBw.out _ GB)) hv3
                      have k2 : (0 : Int) ≤ (i : Int) := by omega
                      have k3 : (i : Int) < (n' : Int) := by omega
                      have l7 : decide ((i : Int) < (n' : Int)) = true := decide_eq_true k3
                      clear hv3
                      by_cases h12 : i = 12
                      · have e12 : ((i : Int) == 12) = true := by simp; omega
                        have HBf := Lib.hid (HBw.out _ GB)
                        clear h12 hi12
                        go_wp2_with fail
                        go_roundw
                        case rel => exact ⟨k + 1, HJ.out.1, HJ.out.2, by go_num, HBf.out⟩
                        case measure => have := HJ.out.1; simp [intOf]; omega
                      · have e12 : ((i : Int) == 12) = false := by simp; omega
                        have HI := Lib.hid (show i + 1 ≤ n' ∧ i + 1 ≤ 12 by omega)
                        have i9 : i < 100 := by omega
                        clear h12 hi12 hi him
                        obtain ⟨D, hD⟩ : ∃ D, dofV (gsM G1) v = D := ⟨_, rfl⟩
                        obtain ⟨Aw, nw, cw, iw, hgv, hiw, hmv⟩ := dget_reads (HP1.out X (Below.refl _ _)) hr v
                        have HOf1 : Hid (∀ u, Below X.heap.size X u → Calls Try.prog 20 #[.agg #[.slice A1 n1 c1], .int .i64 v] u (Said (.tuple #[.int .i64 D, .bool (decide (0 < D))]) u)) := Lib.hid (fun u h => by
                          have := of_any2 A1 n1 c1 G1 v u (HP1.out u h) HNC.out
                          rwa [dof_same hr, hD] at this)
                        have HOf2 : Hid (∀ u, Below X.heap.size X u → Calls Try.prog 22 #[.agg #[.slice A1 n1 c1], .int .i64 v] u (Said (.int .i64 D) u)) := Lib.hid (fun u h => by
                          have := dof_any A1 n1 c1 G1 v u (HP1.out u h)
                          rwa [hD] at this)
                        have HGe1 : Hid (∀ u, Below X.heap.size X u → Calls Try.prog 21 #[.agg #[.slice A1 n1 c1], .int .i64 v] u (Said (.slice Aw nw cw) u)) := Lib.hid (fun u h => by
                          have := dget_any A1 n1 c1 G1 v u (HP1.out u h)
                          rwa [hgv] at this)
                        have HMe1 : Hid (∀ u, Below X.heap.size X u → Calls Try.prog 23 #[.agg #[.slice A1 n1 c1], .int .i64 v] u (OwnsI iw u)) := Lib.hid (fun u h => by
                          have := members2_any A1 n1 c1 G1 v u (HP1.out u h) HNC.out
                          rwa [hmv] at this)
                        have HIw : Hid (∀ u, Below X.heap.size X u → IR u Aw nw iw) := Lib.hid (fun u h => hiw.below h)
                        have HIL : Hid (iw.length ≤ 1000) := Lib.hid (by have := hiw.len; have := hiw.small; omega)
                        have b1 : (D != D) = false := by simp
                        obtain ⟨pb, hpb⟩ : ∃ pb, decide (0 < D) = pb := ⟨_, rfl⟩
                        rw [hpb] at HOf1
                        have b2 : (pb != pb) = false := by simp
                        clear hD hgv hiw hmv
                        have p6 := (HF6.out _ GB).cell 0
                        have p7 := (HF7.out _ GB).cell 0
                        have p8 := (HF8.out _ GB).cell 0
                        go_wp2_with fail
                        refine (HOf1.out _ GB).mono ?_
                        rintro e w5 ⟨rfl, h2⟩
                        replace GB := GB.trans (h2.mono GB.size)
                        clear h2 p6 p7 p8
                        have p6 := (HF6.out _ GB).cell 0
                        have p7 := (HF7.out _ GB).cell 0
                        have p8 := (HF8.out _ GB).cell 0
                        go_upto_region 29 with fail
                        clear p6 p7 p8
                        replace GB := GB.drew
                        refine wp_region_held_drew (S := fun W => Below X.heap.size X W) (by kernel_rfl) GB (fun hS => ?_)
                        generalize w5.drew = V at GB hS ⊢
                        refine wpAnyH_take (i := 0) (v := .agg #[.slice A1 n1 c1]) rfl (by kernel_rfl) (by kernel_rfl) (by kernel_rfl) (fun _ _ _ h => h) (Or.inl ⟨by kernel_rfl, fun u hSw => (by have q0 := (HF7.out u hSw).cell 0; go_simp)⟩) hS ?_
                        change wpAnyH _ _ _ _ _ _ _ (Act.put _ (some 122) _) _
                        simp only [Act.put]
                        try simp only [List.setIfInBounds_toArray, List.set_cons_zero, List.set_cons_succ]
                        refine wpAnyH_take (i := 1) (v := .int .i64 v) rfl (by kernel_rfl) (by kernel_rfl) (by kernel_rfl) (fun _ _ _ h => h) (Or.inl ⟨by kernel_rfl, fun u hSw => (by go_simp)⟩) hS ?_
                        change wpAnyH _ _ _ _ _ _ _ (Act.put _ (some 123) _) _
                        simp only [Act.put]
                        try simp only [List.setIfInBounds_toArray, List.set_cons_zero, List.set_cons_succ]
                        refine wpAnyH_take (i := 3) (v := .agg #[.slice A1 n1 c1]) rfl (by kernel_rfl) (by kernel_rfl) (by kernel_rfl) (fun _ _ _ h => h) (Or.inl ⟨by kernel_rfl, fun u hSw => (by have q0 := (HF7.out u hSw).cell 0; go_simp)⟩) hS ?_
                        change wpAnyH _ _ _ _ _ _ _ (Act.put _ (some 125) _) _
                        simp only [Act.put]
                        try simp only [List.setIfInBounds_toArray, List.set_cons_zero, List.set_cons_succ]
                        refine wpAnyH_take (i := 4) (v := .int .i64 v) rfl (by kernel_rfl) (by kernel_rfl) (by kernel_rfl) (fun _ _ _ h => h) (Or.inl ⟨by kernel_rfl, fun u hSw => (by go_simp)⟩) hS ?_
                        change wpAnyH _ _ _ _ _ _ _ (Act.put _ (some 126) _) _
                        simp only [Act.put]
                        try simp only [List.setIfInBounds_toArray, List.set_cons_zero, List.set_cons_succ]
                        refine wpAnyH_ready (rs := [2]) (by kernel_rfl) (by simp) ?_
                        refine AllReadyH.cons rfl (fun K hK => ?_) AllReadyH.nil
                        go_simp
                        refine (HGe1.out _ GB).mono ?_
                        rintro e1 w1 ⟨rfl, h2⟩
                        replace GB := GB.trans (h2.mono GB.size)
                        clear h2
                        refine hK.out _ _ GB (fun hS => ?_)
                        clear hK K
                        refine wpAnyH_ready (rs := [5]) (by kernel_rfl) (by simp) ?_
                        refine AllReadyH.cons rfl (fun K hK => ?_) AllReadyH.nil
                        go_simp
                        refine (HOf2.out _ GB).mono ?_
                        rintro e2 w2 ⟨rfl, h2⟩
                        replace GB := GB.trans (h2.mono GB.size)
                        clear h2
                        refine hK.out _ _ GB (fun hS => ?_)
                        clear hK K
                        refine wpAnyH_take (i := 6) (v := .slice Aw nw cw) rfl (by kernel_rfl) (by kernel_rfl) (by kernel_rfl) (fun _ _ _ h => h) (Or.inl ⟨by kernel_rfl, fun u hSw => (by go_simp)⟩) hS ?_
                        change wpAnyH _ _ _ _ _ _ _ (Act.put _ (some 17) _) _
                        simp only [Act.put]
                        try simp only [List.setIfInBounds_toArray, List.set_cons_zero, List.set_cons_succ]
                        refine wpAnyH_take (i := 7) (v := .int .i64 D) rfl (by kernel_rfl) (by kernel_rfl) (by kernel_rfl) (fun _ _ _ h => h) (Or.inl ⟨by kernel_rfl, fun u hSw => (by go_simp)⟩) hS ?_
                        change wpAnyH _ _ _ _ _ _ _ (Act.put _ (some 18) _) _
                        simp only [Act.put]
                        try simp only [List.setIfInBounds_toArray, List.set_cons_zero, List.set_cons_succ]
                        refine wpAnyH_done (by kernel_rfl) ?_ _
                        clear hS
                        have p6 := (HF6.out _ GB).cell 0
                        have p7 := (HF7.out _ GB).cell 0
                        have p8 := (HF8.out _ GB).cell 0
                        have HSi0 := HIw.out _ GB
                        go_wp2_with fail
                        refine (HMe1.out _ GB).mono ?_
                        rintro e w9 ⟨A6, n6, c6, rfl, O6, h2⟩
                        replace GB := GB.trans (h2.mono GB.size)
                        have HSi := Lib.hid (sames_any A6 n6 c6 iw Aw nw cw iw w9 ⟨Reads.of_own O6, by have := O6.1; rw [length_vs] at this; have := HIL.out; omega⟩ (HSi0.below h2))
                        rw [decide_eq_true (rfl : iw = iw)] at HSi
                        clear O6 HSi0
                        clear h2 p6 p7 p8
                        have p6 := (HF6.out _ GB).cell 0
                        have p7 := (HF7.out _ GB).cell 0
                        have p8 := (HF8.out _ GB).cell 0
                        go_wp2_with fail
                        refine (HSi.out).mono ?_
                        rintro e w10 ⟨rfl, h2⟩
                        replace GB := GB.trans (h2.mono GB.size)
                        clear h2 p6 p7 p8
                        skip
                        clear HOf1 HOf2 HGe1 HMe1 HSi
                        go_wp2_with fail
                        go_roundw
                        case rel => exact ⟨i + 1, HI.out.1, HI.out.2, by go_num, GB⟩
                        case measure => have := HI.out.1; simp [intOf]; omega
                    · obtain rfl : n' = i := by omega
                      have l7 : decide ((n' : Int) < (n' : Int)) = false := decide_eq_false (by omega)
                      have HBf := Lib.hid (HBw.out _ GB)
                      clear hi12
                      go_wp2_with fail
                      go_roundw
                      case rel => exact ⟨k + 1, HJ.out.1, HJ.out.2, by go_num, HBf.out⟩
                      case measure => have := HJ.out.1; simp [intOf]; omega
    · obtain rfl : n = k := by omega
      have l1 : decide ((n : Int) < (n : Int)) = false := decide_eq_false (by omega)
      clear hk8
      go_wp2
      go_ret
      exact ⟨rfl, hB⟩

end Go.Proofs.Ytglphgfaknofcaa
