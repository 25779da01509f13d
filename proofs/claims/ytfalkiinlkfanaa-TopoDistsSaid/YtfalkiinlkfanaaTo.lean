/-
  TopoDists' walk, on what is asked of the landed calls.
-/
import Derived.Test.YtfalkiinlkfanaaTp
import Derived.Test.YtfalkiinlkfanaaTk
import Derived.Deep.RegionHeld3
import Derived.Deep.DeepCutAuto
import Derived.Deep.CutBlock
namespace Go.Proofs.Ytfalkiinlkfanaa
open Go.RowKit

/-- no part of the row lies in block g -/
def NotIn (A : Option Addr) (n g : Nat) : Prop := ∀ ad, A = some ad → 0 < n → ad.block ≠ g
theorem NotIn.far {V w' : World} {size n g : Nat} {A : Option Addr} {xs : List Value} (h : FarReads V w' size A n xs) (hg : g < V.heap.size) : NotIn A n g := fun ad hA h0 => by have := h.2 ad hA h0; omega
theorem NotIn.new {V : World} {A : Option Addr} {n c : Nat} {l : List (Int × Int)} (h : At V A n c l) : NotIn A n V.heap.size := fun ad hA h0 => by
  obtain ⟨ad', e, hb, _⟩ := h.1.2 h0
  rw [hA] at e
  obtain rfl := Option.some.inj e
  omega
theorem At.set {w : World} {A : Option Addr} {n c g : Nat} {l : List (Int × Int)} (h : At w A n c l) (hx : NotIn A n g) (u : Value) : At (w.setCell ⟨g, 0, none⟩ u) A n c l := by
  refine ⟨⟨h.1.1, fun h0 => ?_⟩, h.2⟩
  obtain ⟨ad, e, hb, hc⟩ := h.1.2 h0
  refine ⟨ad, e, by simpa [World.setCell] using hb, fun j v hv => ?_⟩
  refine (World.cell?_setCell_other w ⟨g, 0, none⟩ _ u (fun he => ?_)).trans (hc j v hv)
  have h1 := congrArg Addr.block he
  rw [block_of_add] at h1
  first | exact hx ad e h0 h1 | exact hx ad e h0 h1.symm
theorem at_far {V w' : World} {A : Option Addr} {n c : Nat} {l : List (Int × Int)} (h : FarReads V w' 2 A n (svs l)) (hc : n ≤ c) (hl : n = l.length) (h9 : l.length ≤ 9) : At w' A n c l := ⟨h.1, hc, by omega⟩

/-- numbers of sets as values -/
def us (l : List Int) : List Value := l.map fun i => .int .u32 i
theorem us_at {l : List Int} {k : Nat} {v : Value} (h : (us l)[k]? = some v) : ∃ x, l[k]? = some x ∧ v = .int .u32 x := by
  unfold us at h
  rw [List.getElem?_map] at h
  cases hl : l[k]? with
  | none => rw [hl] at h; cases h
  | some x => rw [hl] at h; injection h with h; exact ⟨x, rfl, h.symm⟩
/-- two numbers in a row -/
def rv2 (r : Int × Int) : List Value := [.int .i64 r.1, .int .i64 r.2]
theorem length_rv2 (r : Int × Int) : (rv2 r).length = 2 := rfl
theorem two_at {w : World} {B n : Nat} {A : Option Addr} {l : List (Int × Int)} (h : Reads w B 2 A n (flat rv2 l)) {k : Nat} {x y : Int} (hk : l[k]? = some (x, y)) :
    ∃ ad, A = some ad ∧ ad.block < B ∧ w.cell? (ad.add (k * 2)) = some (.int .i64 x) ∧ w.cell? ⟨(ad.add (k * 2)).block, (ad.add (k * 2)).off + 1, none⟩ = some (.int .i64 y) := seat_at h hk
theorem near_small {l : List (Int × Int)} {s : Int} {a : Nat} (h : l.length ≤ 9) : (nearL l s a).length ≤ 100000 := by
  have h1 := length_nearO l s a 4
  have h2 : 4 * l.length ≤ 36 := by omega
  unfold nearL
  omega

set_option maxRecDepth 100000 in
set_option maxHeartbeats 1000000 in
theorem same_same (A1 A2 : Option Addr) (n c1 c2 : Nat) (l : List Int) (w : World) (h1 : Reads w w.heap.size 1 A1 n (vs l)) (h2 : Reads w w.heap.size 1 A2 n (vs l)) (hn : n ≤ 100000) :
    Calls Try.prog 25 #[.slice A1 n c1, .slice A2 n c2] w (Draws (.bool true) w) := by
  go_enter Try.func25, Try.ntmps25
  go_wp2_with fail
  go_loopw [13] (fun i wr => ∃ k q : Nat, k ≤ n ∧ i = .int .i64 k ∧ wr = w.drewN q) (fun i _ => n - (intOf i).toNat)
  case atStart => exact ⟨0, 0, Nat.zero_le _, rfl, rfl⟩
  case round =>
    obtain ⟨k, q, hk, rfl, rfl⟩ := hrel
    by_cases hlt : k < n
    · obtain ⟨ad, v, rfl, _, hx, hc⟩ := h1.at_ hlt
      obtain ⟨ad', v', rfl, _, hx', hc'⟩ := h2.at_ hlt
      obtain rfl : v = v' := by rw [hx] at hx'; injection hx'
      obtain ⟨x, _, rfl⟩ := vs_at hx
      clear hx hx'
      have j0 : (0 : Int) ≤ (k : Int) := by omega
      have j1 : (k : Int) < (n : Int) := by omega
      go_wp2_with fail
      go_quiet (fail)
      go_wp2
      go_roundw
      case rel => exact ⟨k + 1, q + nq, by omega, by go_num, rfl⟩
      case measure => simp [intOf]; omega
    · obtain rfl : k = n := by omega
      go_wp2
      go_ret
      exact ⟨rfl, _, rfl⟩
theorem same_none (A1 : Option Addr) (c1 : Nat) (w : World) : Calls Try.prog 25 #[.slice A1 0 c1, .slice none 0 0] w (Draws (.bool true) w) :=
  same_same A1 none 0 c1 0 [] w ⟨rfl, fun h => absurd h (by omega)⟩ Reads.none_ (by omega)

set_option maxRecDepth 100000 in
set_option maxHeartbeats 32000000 in
theorem dists_walk (HDi : TDistOk) (HNe : TNearOk) (A A' A'' : Option Addr) (n c n' c' m' d' : Nat) (l : List (Int × Int)) (ps : List (Int × Int)) (ss : List Int) (w : World) (hn' : n' ≤ maxLen) (hm' : m' ≤ maxLen)
    (hR : Reads w w.heap.size 2 A n (svs l)) (hnc : n ≤ c) (hl' : ps.length = n') (hR' : Reads w w.heap.size 2 A' n' (flat rv2 ps)) (hR'' : Reads w w.heap.size 1 A'' m' (us ss)) (hu : ∀ (k : Nat) (x : Int), ss[k]? = some x → 0 ≤ x ∧ x < 4294967296)
    (hk : ∀ u, Calls Try.prog 10 #[] u (Said (.bool true) u)) :
    Calls Try.prog 4 #[.agg #[.slice A n c], .slice A' n' c', .slice A'' m' d'] w (Said (.bool true) w) := by
  unfold maxLen at hn' hm'
  have HK := Lib.hid hk
  obtain ⟨L, hL⟩ : ∃ L, l.take 9 = L := ⟨_, rfl⟩
  have h9 : L.length ≤ 9 := by rw [← hL]; exact List.length_take_le _ _
  have HS : Hid (∀ u, Below w.heap.size w u → Calls Try.prog 11 #[.agg #[.slice A n c]] u (Gives L u)) := Lib.hid (fun u hb => hL ▸ short_any A n c l u ((hR.below hb).more hb.size) hnc)
  have H91 := Lib.hid h9
  have H92 := Lib.hid h9
  have HR' := Lib.hid hR'
  have HS' := Lib.hid hR''
  have HU := Lib.hid hu
  have HL' := Lib.hid hl'
  obtain ⟨K, B⟩ : Blk (w.alloc (.cells #[.slice A n c] 27)) w.heap.size 27 #[.slice A n c] ∧ Below w.heap.size w (w.alloc (.cells #[.slice A n c] 27)) := ⟨Blk.new _ _ _, (Below.refl _ _).alloc (Nat.le_refl _) _⟩
  have HB := Lib.hid (And.intro K B)
  clear hk hR K B hR' hR'' hu hl' hL
  go_enter Try.func4, Try.ntmps4
  go_wp2_with fail
  refine (HK.out _).mono ?_
  rintro e w1 ⟨rfl, h1⟩
  have KB := HB.out.1.below h1 HB.out.1.lt
  have GB := HB.out.2.trans (h1.mono HB.out.2.size)
  clear h1 HB HK
  go_upto_region 3 with fail
  replace KB : Blk w1.drew _ _ _ := KB
  replace GB := GB.drew
  go_cut [7, 8] (fun s7 s8 wx => ∃ (g7 g8 : Nat) (A1 : Option Addr) (n1 c1 : Nat) (A2 : Option Addr) (n2 c2 : Nat), s7 = .pointer (some ⟨g7, 0, none⟩) ∧ s8 = .pointer (some ⟨g8, 0, none⟩) ∧ w.heap.size ≤ g7 ∧ w.heap.size ≤ g8 ∧
    Blk wx g7 27 #[.slice A1 n1 c1] ∧ Blk wx g8 27 #[.slice A2 n2 c2] ∧ At wx A1 n1 c1 L ∧ At wx A2 n2 c2 L ∧ Blk wx w.heap.size 27 #[.slice A n c] ∧ Below w.heap.size w wx)
  case first =>
    refine wp_region_held_drew (S := fun W => Blk W w.heap.size 27 #[.slice A n c] ∧ Below w.heap.size w W) (by kernel_rfl) ⟨KB, GB⟩ (fun hS => ?_)
    generalize w1.drew = V at KB GB hS ⊢
    · skip
      refine wpAnyH_take (i := 0) (v := .agg #[.slice A n c]) rfl (by kernel_rfl) (by kernel_rfl) (by kernel_rfl) (fun _ _ _ h => h) (Or.inl ⟨by rfl, fun u hSw => (by have c0 : u.cell? ⟨w.heap.size, 0, none⟩ = some (.slice A n c) := hSw.1.cell 0; go_simp)⟩) hS ?_
      refine wpAnyH_take (i := 2) (v := .agg #[.slice A n c]) rfl (by kernel_rfl) (by kernel_rfl) (by kernel_rfl) (fun _ _ _ h => h) (Or.inl ⟨by rfl, fun u hSw => (by have c0 : u.cell? ⟨w.heap.size, 0, none⟩ = some (.slice A n c) := hSw.1.cell 0; go_simp)⟩) hS ?_
      refine wpAnyH_ready (rs := [1, 4, 5]) (by kernel_rfl) (by simp) ?_
      refine AllReadyH.cons rfl (fun K hK => ?_) (AllReadyH.cons rfl (fun K hK => ?_) (AllReadyH.cons rfl (fun K hK => ?_) (AllReadyH.nil)))
      · skip
        go_simp
        refine (HS.out _ GB).mono ?_
        rintro e w1 ⟨A1, n1, c1, rfl, hl1, hc1, hf1, h1⟩
        replace KB := KB.below h1 KB.lt
        have hA1 : At w1 A1 n1 c1 L := at_far hf1 hc1 hl1 H91.out
        replace GB := GB.trans (h1.mono GB.size)
        clear h1 hf1 hc1 hl1
        refine hK.out _ _ ⟨KB, GB⟩ (fun hS => ?_)
        clear hK K
        refine wpAnyH_ready (rs := [3, 4, 5]) (by kernel_rfl) (by simp) ?_
        refine AllReadyH.cons rfl (fun K hK => ?_) (AllReadyH.cons rfl (fun K hK => ?_) (AllReadyH.cons rfl (fun K hK => ?_) (AllReadyH.nil)))
        · skip
          go_simp
          refine (HS.out _ GB).mono ?_
          rintro e w2 ⟨A2, n2, c2, rfl, hl2, hc2, hf2, h2⟩
          replace KB := KB.below h2 KB.lt
          replace hA1 := hA1.below h2
          have hA2 : At w2 A2 n2 c2 L := at_far hf2 hc2 hl2 H92.out
          replace GB := GB.trans (h2.mono GB.size)
          clear h2 hf2 hc2 hl2
          refine hK.out _ _ ⟨KB, GB⟩ (fun hS => ?_)
          clear hK K
          refine wpAnyH_ready (rs := [4, 5]) (by kernel_rfl) (by simp) ?_
          refine AllReadyH.cons rfl (fun K hK => ?_) (AllReadyH.cons rfl (fun K hK => ?_) (AllReadyH.nil))
          · skip
            go_simp
            have F7 := Blk.new w2 27 #[.slice none 0 0]
            have lk7 := KB.lt
            have lb7 := GB.size
            have x1_7 := NotIn.new hA1
            have x2_7 := NotIn.new hA2
            replace KB := KB.alloc (.cells #[.slice none 0 0] 27)
            replace hA1 := hA1.below ((Below.refl _ _).alloc (Nat.le_refl _) (.cells #[.slice none 0 0] 27))
            replace hA2 := hA2.below ((Below.refl _ _).alloc (Nat.le_refl _) (.cells #[.slice none 0 0] 27))
            replace GB := GB.alloc GB.size (.cells #[.slice none 0 0] 27)
            refine hK.out _ _ ⟨KB, GB⟩ (fun hS => ?_)
            clear hK K
            generalize w2.alloc (.cells #[.slice none 0 0] 27) = U3 at KB GB hS F7 hA1 hA2 ⊢
            generalize w2.heap.size = g7 at F7 lk7 lb7 x1_7 x2_7 ⊢
            refine wpAnyH_ready (rs := [5]) (by kernel_rfl) (by simp) ?_
            refine AllReadyH.cons rfl (fun K hK => ?_) (AllReadyH.nil)
            go_simp
            have F8 := Blk.new U3 27 #[.slice none 0 0]
            have lk8 := KB.lt
            have lb8 := GB.size
            have l78 := F7.lt
            have x1_8 := NotIn.new hA1
            have x2_8 := NotIn.new hA2
            replace KB := KB.alloc (.cells #[.slice none 0 0] 27)
            replace F7 := F7.alloc (.cells #[.slice none 0 0] 27)
            replace hA1 := hA1.below ((Below.refl _ _).alloc (Nat.le_refl _) (.cells #[.slice none 0 0] 27))
            replace hA2 := hA2.below ((Below.refl _ _).alloc (Nat.le_refl _) (.cells #[.slice none 0 0] 27))
            replace GB := GB.alloc GB.size (.cells #[.slice none 0 0] 27)
            refine hK.out _ _ ⟨KB, GB⟩ (fun hS => ?_)
            clear hK K
            generalize U3.alloc (.cells #[.slice none 0 0] 27) = U4 at KB GB hS F8 F7 hA1 hA2 ⊢
            generalize U3.heap.size = g8 at F8 lk8 lb8 l78 x1_8 x2_8 ⊢
            refine wpAnyH_ready (rs := [6]) (by kernel_rfl) (by simp) ?_
            refine AllReadyH.cons rfl (fun K hK => ?_) (AllReadyH.nil)
            have d0 := F7.cell 0
            have f0 := F7.frozen 0
            have KB2 := KB.far (p := ⟨g7, 0, none⟩) (by simp; omega) (.slice A1 n1 c1)
            have GB2 := GB.setCell (p := ⟨g7, 0, none⟩) (by simp; omega) (.slice A1 n1 c1)
            have G7 := (put1 (x := (.slice A1 n1 c1)) F7 GB (by omega)).1
            have G8 := F8.far (p := ⟨g7, 0, none⟩) (by simp; omega) (.slice A1 n1 c1)
            have hB1 := hA1.set x1_7 (.slice A1 n1 c1)
            have hB2 := hA2.set x2_7 (.slice A1 n1 c1)
            clear KB GB F7 F8 hA1 hA2 hS
            go_simp
            refine hK.out _ _ ⟨KB2, GB2⟩ (fun hS => ?_)
            clear hK K d0 f0
            generalize U4.setCell ⟨g7, 0, none⟩ (.slice A1 n1 c1) = U5 at KB2 GB2 hS G7 G8 hB1 hB2 ⊢
            have KB := KB2
            have GB := GB2
            have F7 := G7
            have F8 := G8
            have hA1 := hB1
            have hA2 := hB2
            clear KB2 GB2 G7 G8 hB1 hB2
            refine wpAnyH_ready (rs := [7]) (by kernel_rfl) (by simp) ?_
            refine AllReadyH.cons rfl (fun K hK => ?_) (AllReadyH.nil)
            have d0 := F8.cell 0
            have f0 := F8.frozen 0
            have KB2 := KB.far (p := ⟨g8, 0, none⟩) (by simp; omega) (.slice A2 n2 c2)
            have GB2 := GB.setCell (p := ⟨g8, 0, none⟩) (by simp; omega) (.slice A2 n2 c2)
            have G8 := (put1 (x := (.slice A2 n2 c2)) F8 GB (by omega)).1
            have G7 := F7.far (p := ⟨g8, 0, none⟩) (by simp; omega) (.slice A2 n2 c2)
            have hB1 := hA1.set x1_8 (.slice A2 n2 c2)
            have hB2 := hA2.set x2_8 (.slice A2 n2 c2)
            clear KB GB F8 F7 hA1 hA2 hS
            go_simp
            refine hK.out _ _ ⟨KB2, GB2⟩ (fun hS => ?_)
            clear hK K d0 f0
            generalize U5.setCell ⟨g8, 0, none⟩ (.slice A2 n2 c2) = U6 at KB2 GB2 hS G7 G8 hB1 hB2 ⊢
            have KB := KB2
            have GB := GB2
            have F7 := G7
            have F8 := G8
            have hA1 := hB1
            have hA2 := hB2
            clear KB2 GB2 G7 G8 hB1 hB2
            refine wpAnyH_done (by kernel_rfl) ?_ _
            go_wp2_with fail
            go_meet
            exact ⟨g7, g8, A1, n1, c1, A2, n2, c2, rfl, rfl, by omega, by omega, F7, F8, hA1, hA2, KB, GB⟩
          · skip
            go_simp
            have F8 := Blk.new w2 27 #[.slice none 0 0]
            have lk8 := KB.lt
            have lb8 := GB.size
            have x1_8 := NotIn.new hA1
            have x2_8 := NotIn.new hA2
            replace KB := KB.alloc (.cells #[.slice none 0 0] 27)
            replace hA1 := hA1.below ((Below.refl _ _).alloc (Nat.le_refl _) (.cells #[.slice none 0 0] 27))
            replace hA2 := hA2.below ((Below.refl _ _).alloc (Nat.le_refl _) (.cells #[.slice none 0 0] 27))
            replace GB := GB.alloc GB.size (.cells #[.slice none 0 0] 27)
            refine hK.out _ _ ⟨KB, GB⟩ (fun hS => ?_)
            clear hK K
            generalize w2.alloc (.cells #[.slice none 0 0] 27) = U7 at KB GB hS F8 hA1 hA2 ⊢
            generalize w2.heap.size = g8 at F8 lk8 lb8 x1_8 x2_8 ⊢
            refine wpAnyH_ready (rs := [4]) (by kernel_rfl) (by simp) ?_
            refine AllReadyH.cons rfl (fun K hK => ?_) (AllReadyH.nil)
            go_simp
            have F7 := Blk.new U7 27 #[.slice none 0 0]
            have lk7 := KB.lt
            have lb7 := GB.size
            have l87 := F8.lt
            have x1_7 := NotIn.new hA1
            have x2_7 := NotIn.new hA2
            replace KB := KB.alloc (.cells #[.slice none 0 0] 27)
            replace F8 := F8.alloc (.cells #[.slice none 0 0] 27)
            replace hA1 := hA1.below ((Below.refl _ _).alloc (Nat.le_refl _) (.cells #[.slice none 0 0] 27))
            replace hA2 := hA2.below ((Below.refl _ _).alloc (Nat.le_refl _) (.cells #[.slice none 0 0] 27))
            replace GB := GB.alloc GB.size (.cells #[.slice none 0 0] 27)
            refine hK.out _ _ ⟨KB, GB⟩ (fun hS => ?_)
            clear hK K
            generalize U7.alloc (.cells #[.slice none 0 0] 27) = U8 at KB GB hS F7 F8 hA1 hA2 ⊢
            generalize U7.heap.size = g7 at F7 lk7 lb7 l87 x1_7 x2_7 ⊢
            refine wpAnyH_ready (rs := [6]) (by kernel_rfl) (by simp) ?_
            refine AllReadyH.cons rfl (fun K hK => ?_) (AllReadyH.nil)
            have d0 := F7.cell 0
            have f0 := F7.frozen 0
            have KB2 := KB.far (p := ⟨g7, 0, none⟩) (by simp; omega) (.slice A1 n1 c1)
            have GB2 := GB.setCell (p := ⟨g7, 0, none⟩) (by simp; omega) (.slice A1 n1 c1)
            have G7 := (put1 (x := (.slice A1 n1 c1)) F7 GB (by omega)).1
            have G8 := F8.far (p := ⟨g7, 0, none⟩) (by simp; omega) (.slice A1 n1 c1)
            have hB1 := hA1.set x1_7 (.slice A1 n1 c1)
            have hB2 := hA2.set x2_7 (.slice A1 n1 c1)
            clear KB GB F7 F8 hA1 hA2 hS
            go_simp
            refine hK.out _ _ ⟨KB2, GB2⟩ (fun hS => ?_)
            clear hK K d0 f0
            generalize U8.setCell ⟨g7, 0, none⟩ (.slice A1 n1 c1) = U9 at KB2 GB2 hS G7 G8 hB1 hB2 ⊢
            have KB := KB2
            have GB := GB2
            have F7 := G7
            have F8 := G8
            have hA1 := hB1
            have hA2 := hB2
            clear KB2 GB2 G7 G8 hB1 hB2
            refine wpAnyH_ready (rs := [7]) (by kernel_rfl) (by simp) ?_
            refine AllReadyH.cons rfl (fun K hK => ?_) (AllReadyH.nil)
            have d0 := F8.cell 0
            have f0 := F8.frozen 0
            have KB2 := KB.far (p := ⟨g8, 0, none⟩) (by simp; omega) (.slice A2 n2 c2)
            have GB2 := GB.setCell (p := ⟨g8, 0, none⟩) (by simp; omega) (.slice A2 n2 c2)
            have G8 := (put1 (x := (.slice A2 n2 c2)) F8 GB (by omega)).1
            have G7 := F7.far (p := ⟨g8, 0, none⟩) (by simp; omega) (.slice A2 n2 c2)
            have hB1 := hA1.set x1_8 (.slice A2 n2 c2)
            have hB2 := hA2.set x2_8 (.slice A2 n2 c2)
            clear KB GB F8 F7 hA1 hA2 hS
            go_simp
            refine hK.out _ _ ⟨KB2, GB2⟩ (fun hS => ?_)
            clear hK K d0 f0
            generalize U9.setCell ⟨g8, 0, none⟩ (.slice A2 n2 c2) = U10 at KB2 GB2 hS G7 G8 hB1 hB2 ⊢
            have KB := KB2
            have GB := GB2
            have F7 := G7
            have F8 := G8
            have hA1 := hB1
            have hA2 := hB2
            clear KB2 GB2 G7 G8 hB1 hB2
            refine wpAnyH_done (by kernel_rfl) ?_ _
            go_wp2_with fail
            go_meet
            exact ⟨g7, g8, A1, n1, c1, A2, n2, c2, rfl, rfl, by omega, by omega, F7, F8, hA1, hA2, KB, GB⟩
        · skip
          go_simp
          have F7 := Blk.new w1 27 #[.slice none 0 0]
          have lk7 := KB.lt
          have lb7 := GB.size
          have x1_7 := NotIn.new hA1
          replace KB := KB.alloc (.cells #[.slice none 0 0] 27)
          replace hA1 := hA1.below ((Below.refl _ _).alloc (Nat.le_refl _) (.cells #[.slice none 0 0] 27))
          replace GB := GB.alloc GB.size (.cells #[.slice none 0 0] 27)
          refine hK.out _ _ ⟨KB, GB⟩ (fun hS => ?_)
          clear hK K
          generalize w1.alloc (.cells #[.slice none 0 0] 27) = U11 at KB GB hS F7 hA1 ⊢
          generalize w1.heap.size = g7 at F7 lk7 lb7 x1_7 ⊢
          refine wpAnyH_ready (rs := [3, 5]) (by kernel_rfl) (by simp) ?_
          refine AllReadyH.cons rfl (fun K hK => ?_) (AllReadyH.cons rfl (fun K hK => ?_) (AllReadyH.nil))
          · skip
            go_simp
            refine (HS.out _ GB).mono ?_
            rintro e w12 ⟨A2, n2, c2, rfl, hl2, hc2, hf2, h12⟩
            have x2_7 := NotIn.far hf2 F7.lt
            replace KB := KB.below h12 KB.lt
            replace F7 := F7.below h12 F7.lt
            replace hA1 := hA1.below h12
            have hA2 : At w12 A2 n2 c2 L := at_far hf2 hc2 hl2 H92.out
            replace GB := GB.trans (h12.mono GB.size)
            clear h12 hf2 hc2 hl2
            refine hK.out _ _ ⟨KB, GB⟩ (fun hS => ?_)
            clear hK K
            refine wpAnyH_ready (rs := [5]) (by kernel_rfl) (by simp) ?_
            refine AllReadyH.cons rfl (fun K hK => ?_) (AllReadyH.nil)
            go_simp
            have F8 := Blk.new w12 27 #[.slice none 0 0]
            have lk8 := KB.lt
            have lb8 := GB.size
            have l78 := F7.lt
            have x1_8 := NotIn.new hA1
            have x2_8 := NotIn.new hA2
            replace KB := KB.alloc (.cells #[.slice none 0 0] 27)
            replace F7 := F7.alloc (.cells #[.slice none 0 0] 27)
            replace hA1 := hA1.below ((Below.refl _ _).alloc (Nat.le_refl _) (.cells #[.slice none 0 0] 27))
            replace hA2 := hA2.below ((Below.refl _ _).alloc (Nat.le_refl _) (.cells #[.slice none 0 0] 27))
            replace GB := GB.alloc GB.size (.cells #[.slice none 0 0] 27)
            refine hK.out _ _ ⟨KB, GB⟩ (fun hS => ?_)
            clear hK K
            generalize w12.alloc (.cells #[.slice none 0 0] 27) = U13 at KB GB hS F8 F7 hA1 hA2 ⊢
            generalize w12.heap.size = g8 at F8 lk8 lb8 l78 x1_8 x2_8 ⊢
            refine wpAnyH_ready (rs := [6]) (by kernel_rfl) (by simp) ?_
            refine AllReadyH.cons rfl (fun K hK => ?_) (AllReadyH.nil)
            have d0 := F7.cell 0
            have f0 := F7.frozen 0
            have KB2 := KB.far (p := ⟨g7, 0, none⟩) (by simp; omega) (.slice A1 n1 c1)
            have GB2 := GB.setCell (p := ⟨g7, 0, none⟩) (by simp; omega) (.slice A1 n1 c1)
            have G7 := (put1 (x := (.slice A1 n1 c1)) F7 GB (by omega)).1
            have G8 := F8.far (p := ⟨g7, 0, none⟩) (by simp; omega) (.slice A1 n1 c1)
            have hB1 := hA1.set x1_7 (.slice A1 n1 c1)
            have hB2 := hA2.set x2_7 (.slice A1 n1 c1)
            clear KB GB F7 F8 hA1 hA2 hS
            go_simp
            refine hK.out _ _ ⟨KB2, GB2⟩ (fun hS => ?_)
            clear hK K d0 f0
            generalize U13.setCell ⟨g7, 0, none⟩ (.slice A1 n1 c1) = U14 at KB2 GB2 hS G7 G8 hB1 hB2 ⊢
            have KB := KB2
            have GB := GB2
            have F7 := G7
            have F8 := G8
            have hA1 := hB1
            have hA2 := hB2
            clear KB2 GB2 G7 G8 hB1 hB2
            refine wpAnyH_ready (rs := [7]) (by kernel_rfl) (by simp) ?_
            refine AllReadyH.cons rfl (fun K hK => ?_) (AllReadyH.nil)
            have d0 := F8.cell 0
            have f0 := F8.frozen 0
            have KB2 := KB.far (p := ⟨g8, 0, none⟩) (by simp; omega) (.slice A2 n2 c2)
            have GB2 := GB.setCell (p := ⟨g8, 0, none⟩) (by simp; omega) (.slice A2 n2 c2)
            have G8 := (put1 (x := (.slice A2 n2 c2)) F8 GB (by omega)).1
            have G7 := F7.far (p := ⟨g8, 0, none⟩) (by simp; omega) (.slice A2 n2 c2)
            have hB1 := hA1.set x1_8 (.slice A2 n2 c2)
            have hB2 := hA2.set x2_8 (.slice A2 n2 c2)
            clear KB GB F8 F7 hA1 hA2 hS
            go_simp
            refine hK.out _ _ ⟨KB2, GB2⟩ (fun hS => ?_)
            clear hK K d0 f0
            generalize U14.setCell ⟨g8, 0, none⟩ (.slice A2 n2 c2) = U15 at KB2 GB2 hS G7 G8 hB1 hB2 ⊢
            have KB := KB2
            have GB := GB2
            have F7 := G7
            have F8 := G8
            have hA1 := hB1
            have hA2 := hB2
            clear KB2 GB2 G7 G8 hB1 hB2
            refine wpAnyH_done (by kernel_rfl) ?_ _
            go_wp2_with fail
            go_meet
            exact ⟨g7, g8, A1, n1, c1, A2, n2, c2, rfl, rfl, by omega, by omega, F7, F8, hA1, hA2, KB, GB⟩
          · skip
            go_simp
            have F8 := Blk.new U11 27 #[.slice none 0 0]
            have lk8 := KB.lt
            have lb8 := GB.size
            have l78 := F7.lt
            have x1_8 := NotIn.new hA1
            replace KB := KB.alloc (.cells #[.slice none 0 0] 27)
            replace F7 := F7.alloc (.cells #[.slice none 0 0] 27)
            replace hA1 := hA1.below ((Below.refl _ _).alloc (Nat.le_refl _) (.cells #[.slice none 0 0] 27))
            replace GB := GB.alloc GB.size (.cells #[.slice none 0 0] 27)
            refine hK.out _ _ ⟨KB, GB⟩ (fun hS => ?_)
            clear hK K
            generalize U11.alloc (.cells #[.slice none 0 0] 27) = U16 at KB GB hS F8 F7 hA1 ⊢
            generalize U11.heap.size = g8 at F8 lk8 lb8 l78 x1_8 ⊢
            refine wpAnyH_ready (rs := [3]) (by kernel_rfl) (by simp) ?_
            refine AllReadyH.cons rfl (fun K hK => ?_) (AllReadyH.nil)
            go_simp
            refine (HS.out _ GB).mono ?_
            rintro e w17 ⟨A2, n2, c2, rfl, hl2, hc2, hf2, h17⟩
            have x2_7 := NotIn.far hf2 F7.lt
            have x2_8 := NotIn.far hf2 F8.lt
            replace KB := KB.below h17 KB.lt
            replace F7 := F7.below h17 F7.lt
            replace F8 := F8.below h17 F8.lt
            replace hA1 := hA1.below h17
            have hA2 : At w17 A2 n2 c2 L := at_far hf2 hc2 hl2 H92.out
            replace GB := GB.trans (h17.mono GB.size)
            clear h17 hf2 hc2 hl2
            refine hK.out _ _ ⟨KB, GB⟩ (fun hS => ?_)
            clear hK K
            refine wpAnyH_ready (rs := [6]) (by kernel_rfl) (by simp) ?_
            refine AllReadyH.cons rfl (fun K hK => ?_) (AllReadyH.nil)
            have d0 := F7.cell 0
            have f0 := F7.frozen 0
            have KB2 := KB.far (p := ⟨g7, 0, none⟩) (by simp; omega) (.slice A1 n1 c1)
            have GB2 := GB.setCell (p := ⟨g7, 0, none⟩) (by simp; omega) (.slice A1 n1 c1)
            have G7 := (put1 (x := (.slice A1 n1 c1)) F7 GB (by omega)).1
            have G8 := F8.far (p := ⟨g7, 0, none⟩) (by simp; omega) (.slice A1 n1 c1)
            have hB1 := hA1.set x1_7 (.slice A1 n1 c1)
            have hB2 := hA2.set x2_7 (.slice A1 n1 c1)
            clear KB GB F7 F8 hA1 hA2 hS
            go_simp
            refine hK.out _ _ ⟨KB2, GB2⟩ (fun hS => ?_)
            clear hK K d0 f0
            generalize w17.setCell ⟨g7, 0, none⟩ (.slice A1 n1 c1) = U18 at KB2 GB2 hS G7 G8 hB1 hB2 ⊢
            have KB := KB2
            have GB := GB2
            have F7 := G7
            have F8 := G8
            have hA1 := hB1
            have hA2 := hB2
            clear KB2 GB2 G7 G8 hB1 hB2
            refine wpAnyH_ready (rs := [7]) (by kernel_rfl) (by simp) ?_
            refine AllReadyH.cons rfl (fun K hK => ?_) (AllReadyH.nil)
            have d0 := F8.cell 0
            have f0 := F8.frozen 0
            have KB2 := KB.far (p := ⟨g8, 0, none⟩) (by simp; omega) (.slice A2 n2 c2)
            have GB2 := GB.setCell (p := ⟨g8, 0, none⟩) (by simp; omega) (.slice A2 n2 c2)
            have G8 := (put1 (x := (.slice A2 n2 c2)) F8 GB (by omega)).1
            have G7 := F7.far (p := ⟨g8, 0, none⟩) (by simp; omega) (.slice A2 n2 c2)
            have hB1 := hA1.set x1_8 (.slice A2 n2 c2)
            have hB2 := hA2.set x2_8 (.slice A2 n2 c2)
            clear KB GB F8 F7 hA1 hA2 hS
            go_simp
            refine hK.out _ _ ⟨KB2, GB2⟩ (fun hS => ?_)
            clear hK K d0 f0
            generalize U18.setCell ⟨g8, 0, none⟩ (.slice A2 n2 c2) = U19 at KB2 GB2 hS G7 G8 hB1 hB2 ⊢
            have KB := KB2
            have GB := GB2
            have F7 := G7
            have F8 := G8
            have hA1 := hB1
            have hA2 := hB2
            clear KB2 GB2 G7 G8 hB1 hB2
            refine wpAnyH_done (by kernel_rfl) ?_ _
            go_wp2_with fail
            go_meet
            exact ⟨g7, g8, A1, n1, c1, A2, n2, c2, rfl, rfl, by omega, by omega, F7, F8, hA1, hA2, KB, GB⟩
        · skip
          go_simp
          have F8 := Blk.new w1 27 #[.slice none 0 0]
          have lk8 := KB.lt
          have lb8 := GB.size
          have x1_8 := NotIn.new hA1
          replace KB := KB.alloc (.cells #[.slice none 0 0] 27)
          replace hA1 := hA1.below ((Below.refl _ _).alloc (Nat.le_refl _) (.cells #[.slice none 0 0] 27))
          replace GB := GB.alloc GB.size (.cells #[.slice none 0 0] 27)
          refine hK.out _ _ ⟨KB, GB⟩ (fun hS => ?_)
          clear hK K
          generalize w1.alloc (.cells #[.slice none 0 0] 27) = U20 at KB GB hS F8 hA1 ⊢
          generalize w1.heap.size = g8 at F8 lk8 lb8 x1_8 ⊢
          refine wpAnyH_ready (rs := [3, 4]) (by kernel_rfl) (by simp) ?_
          refine AllReadyH.cons rfl (fun K hK => ?_) (AllReadyH.cons rfl (fun K hK => ?_) (AllReadyH.nil))
          · skip
            go_simp
            refine (HS.out _ GB).mono ?_
            rintro e w21 ⟨A2, n2, c2, rfl, hl2, hc2, hf2, h21⟩
            have x2_8 := NotIn.far hf2 F8.lt
            replace KB := KB.below h21 KB.lt
            replace F8 := F8.below h21 F8.lt
            replace hA1 := hA1.below h21
            have hA2 : At w21 A2 n2 c2 L := at_far hf2 hc2 hl2 H92.out
            replace GB := GB.trans (h21.mono GB.size)
            clear h21 hf2 hc2 hl2
            refine hK.out _ _ ⟨KB, GB⟩ (fun hS => ?_)
            clear hK K
            refine wpAnyH_ready (rs := [4]) (by kernel_rfl) (by simp) ?_
            refine AllReadyH.cons rfl (fun K hK => ?_) (AllReadyH.nil)
            go_simp
            have F7 := Blk.new w21 27 #[.slice none 0 0]
            have lk7 := KB.lt
            have lb7 := GB.size
            have l87 := F8.lt
            have x1_7 := NotIn.new hA1
            have x2_7 := NotIn.new hA2
            replace KB := KB.alloc (.cells #[.slice none 0 0] 27)
            replace F8 := F8.alloc (.cells #[.slice none 0 0] 27)
            replace hA1 := hA1.below ((Below.refl _ _).alloc (Nat.le_refl _) (.cells #[.slice none 0 0] 27))
            replace hA2 := hA2.below ((Below.refl _ _).alloc (Nat.le_refl _) (.cells #[.slice none 0 0] 27))
            replace GB := GB.alloc GB.size (.cells #[.slice none 0 0] 27)
            refine hK.out _ _ ⟨KB, GB⟩ (fun hS => ?_)
            clear hK K
            generalize w21.alloc (.cells #[.slice none 0 0] 27) = U22 at KB GB hS F7 F8 hA1 hA2 ⊢
            generalize w21.heap.size = g7 at F7 lk7 lb7 l87 x1_7 x2_7 ⊢
            refine wpAnyH_ready (rs := [6]) (by kernel_rfl) (by simp) ?_
            refine AllReadyH.cons rfl (fun K hK => ?_) (AllReadyH.nil)
            have d0 := F7.cell 0
            have f0 := F7.frozen 0
            have KB2 := KB.far (p := ⟨g7, 0, none⟩) (by simp; omega) (.slice A1 n1 c1)
            have GB2 := GB.setCell (p := ⟨g7, 0, none⟩) (by simp; omega) (.slice A1 n1 c1)
            have G7 := (put1 (x := (.slice A1 n1 c1)) F7 GB (by omega)).1
            have G8 := F8.far (p := ⟨g7, 0, none⟩) (by simp; omega) (.slice A1 n1 c1)
            have hB1 := hA1.set x1_7 (.slice A1 n1 c1)
            have hB2 := hA2.set x2_7 (.slice A1 n1 c1)
            clear KB GB F7 F8 hA1 hA2 hS
            go_simp
            refine hK.out _ _ ⟨KB2, GB2⟩ (fun hS => ?_)
            clear hK K d0 f0
            generalize U22.setCell ⟨g7, 0, none⟩ (.slice A1 n1 c1) = U23 at KB2 GB2 hS G7 G8 hB1 hB2 ⊢
            have KB := KB2
            have GB := GB2
            have F7 := G7
            have F8 := G8
            have hA1 := hB1
            have hA2 := hB2
            clear KB2 GB2 G7 G8 hB1 hB2
            refine wpAnyH_ready (rs := [7]) (by kernel_rfl) (by simp) ?_
            refine AllReadyH.cons rfl (fun K hK => ?_) (AllReadyH.nil)
            have d0 := F8.cell 0
            have f0 := F8.frozen 0
            have KB2 := KB.far (p := ⟨g8, 0, none⟩) (by simp; omega) (.slice A2 n2 c2)
            have GB2 := GB.setCell (p := ⟨g8, 0, none⟩) (by simp; omega) (.slice A2 n2 c2)
            have G8 := (put1 (x := (.slice A2 n2 c2)) F8 GB (by omega)).1
            have G7 := F7.far (p := ⟨g8, 0, none⟩) (by simp; omega) (.slice A2 n2 c2)
            have hB1 := hA1.set x1_8 (.slice A2 n2 c2)
            have hB2 := hA2.set x2_8 (.slice A2 n2 c2)
            clear KB GB F8 F7 hA1 hA2 hS
            go_simp
            refine hK.out _ _ ⟨KB2, GB2⟩ (fun hS => ?_)
            clear hK K d0 f0
            generalize U23.setCell ⟨g8, 0, none⟩ (.slice A2 n2 c2) = U24 at KB2 GB2 hS G7 G8 hB1 hB2 ⊢
            have KB := KB2
            have GB := GB2
            have F7 := G7
            have F8 := G8
            have hA1 := hB1
            have hA2 := hB2
            clear KB2 GB2 G7 G8 hB1 hB2
            refine wpAnyH_done (by kernel_rfl) ?_ _
            go_wp2_with fail
            go_meet
            exact ⟨g7, g8, A1, n1, c1, A2, n2, c2, rfl, rfl, by omega, by omega, F7, F8, hA1, hA2, KB, GB⟩
          · skip
            go_simp
            have F7 := Blk.new U20 27 #[.slice none 0 0]
            have lk7 := KB.lt
            have lb7 := GB.size
            have l87 := F8.lt
            have x1_7 := NotIn.new hA1
            replace KB := KB.alloc (.cells #[.slice none 0 0] 27)
            replace F8 := F8.alloc (.cells #[.slice none 0 0] 27)
            replace hA1 := hA1.below ((Below.refl _ _).alloc (Nat.le_refl _) (.cells #[.slice none 0 0] 27))
            replace GB := GB.alloc GB.size (.cells #[.slice none 0 0] 27)
            refine hK.out _ _ ⟨KB, GB⟩ (fun hS => ?_)
            clear hK K
            generalize U20.alloc (.cells #[.slice none 0 0] 27) = U25 at KB GB hS F7 F8 hA1 ⊢
            generalize U20.heap.size = g7 at F7 lk7 lb7 l87 x1_7 ⊢
            refine wpAnyH_ready (rs := [3]) (by kernel_rfl) (by simp) ?_
            refine AllReadyH.cons rfl (fun K hK => ?_) (AllReadyH.nil)
            go_simp
            refine (HS.out _ GB).mono ?_
            rintro e w26 ⟨A2, n2, c2, rfl, hl2, hc2, hf2, h26⟩
            have x2_7 := NotIn.far hf2 F7.lt
            have x2_8 := NotIn.far hf2 F8.lt
            replace KB := KB.below h26 KB.lt
            replace F7 := F7.below h26 F7.lt
            replace F8 := F8.below h26 F8.lt
            replace hA1 := hA1.below h26
            have hA2 : At w26 A2 n2 c2 L := at_far hf2 hc2 hl2 H92.out
            replace GB := GB.trans (h26.mono GB.size)
            clear h26 hf2 hc2 hl2
            refine hK.out _ _ ⟨KB, GB⟩ (fun hS => ?_)
            clear hK K
            refine wpAnyH_ready (rs := [6]) (by kernel_rfl) (by simp) ?_
            refine AllReadyH.cons rfl (fun K hK => ?_) (AllReadyH.nil)
            have d0 := F7.cell 0
            have f0 := F7.frozen 0
            have KB2 := KB.far (p := ⟨g7, 0, none⟩) (by simp; omega) (.slice A1 n1 c1)
            have GB2 := GB.setCell (p := ⟨g7, 0, none⟩) (by simp; omega) (.slice A1 n1 c1)
            have G7 := (put1 (x := (.slice A1 n1 c1)) F7 GB (by omega)).1
            have G8 := F8.far (p := ⟨g7, 0, none⟩) (by simp; omega) (.slice A1 n1 c1)
            have hB1 := hA1.set x1_7 (.slice A1 n1 c1)
            have hB2 := hA2.set x2_7 (.slice A1 n1 c1)
            clear KB GB F7 F8 hA1 hA2 hS
            go_simp
            refine hK.out _ _ ⟨KB2, GB2⟩ (fun hS => ?_)
            clear hK K d0 f0
            generalize w26.setCell ⟨g7, 0, none⟩ (.slice A1 n1 c1) = U27 at KB2 GB2 hS G7 G8 hB1 hB2 ⊢
            have KB := KB2
            have GB := GB2
            have F7 := G7
            have F8 := G8
            have hA1 := hB1
            have hA2 := hB2
            clear KB2 GB2 G7 G8 hB1 hB2
            refine wpAnyH_ready (rs := [7]) (by kernel_rfl) (by simp) ?_
            refine AllReadyH.cons rfl (fun K hK => ?_) (AllReadyH.nil)
            have d0 := F8.cell 0
            have f0 := F8.frozen 0
            have KB2 := KB.far (p := ⟨g8, 0, none⟩) (by simp; omega) (.slice A2 n2 c2)
            have GB2 := GB.setCell (p := ⟨g8, 0, none⟩) (by simp; omega) (.slice A2 n2 c2)
            have G8 := (put1 (x := (.slice A2 n2 c2)) F8 GB (by omega)).1
            have G7 := F7.far (p := ⟨g8, 0, none⟩) (by simp; omega) (.slice A2 n2 c2)
            have hB1 := hA1.set x1_8 (.slice A2 n2 c2)
            have hB2 := hA2.set x2_8 (.slice A2 n2 c2)
            clear KB GB F8 F7 hA1 hA2 hS
            go_simp
            refine hK.out _ _ ⟨KB2, GB2⟩ (fun hS => ?_)
            clear hK K d0 f0
            generalize U27.setCell ⟨g8, 0, none⟩ (.slice A2 n2 c2) = U28 at KB2 GB2 hS G7 G8 hB1 hB2 ⊢
            have KB := KB2
            have GB := GB2
            have F7 := G7
            have F8 := G8
            have hA1 := hB1
            have hA2 := hB2
            clear KB2 GB2 G7 G8 hB1 hB2
            refine wpAnyH_done (by kernel_rfl) ?_ _
            go_wp2_with fail
            go_meet
            exact ⟨g7, g8, A1, n1, c1, A2, n2, c2, rfl, rfl, by omega, by omega, F7, F8, hA1, hA2, KB, GB⟩
      · skip
        go_simp
        have F7 := Blk.new V 27 #[.slice none 0 0]
        have lk7 := KB.lt
        have lb7 := GB.size
        replace KB := KB.alloc (.cells #[.slice none 0 0] 27)
        replace GB := GB.alloc GB.size (.cells #[.slice none 0 0] 27)
        refine hK.out _ _ ⟨KB, GB⟩ (fun hS => ?_)
        clear hK K
        generalize V.alloc (.cells #[.slice none 0 0] 27) = U29 at KB GB hS F7 ⊢
        generalize V.heap.size = g7 at F7 lk7 lb7  ⊢
        refine wpAnyH_ready (rs := [1, 5]) (by kernel_rfl) (by simp) ?_
        refine AllReadyH.cons rfl (fun K hK => ?_) (AllReadyH.cons rfl (fun K hK => ?_) (AllReadyH.nil))
        · skip
          go_simp
          refine (HS.out _ GB).mono ?_
          rintro e w30 ⟨A1, n1, c1, rfl, hl1, hc1, hf1, h30⟩
          have x1_7 := NotIn.far hf1 F7.lt
          replace KB := KB.below h30 KB.lt
          replace F7 := F7.below h30 F7.lt
          have hA1 : At w30 A1 n1 c1 L := at_far hf1 hc1 hl1 H91.out
          replace GB := GB.trans (h30.mono GB.size)
          clear h30 hf1 hc1 hl1
          refine hK.out _ _ ⟨KB, GB⟩ (fun hS => ?_)
          clear hK K
          refine wpAnyH_ready (rs := [3, 5]) (by kernel_rfl) (by simp) ?_
          refine AllReadyH.cons rfl (fun K hK => ?_) (AllReadyH.cons rfl (fun K hK => ?_) (AllReadyH.nil))
          · skip
            go_simp
            refine (HS.out _ GB).mono ?_
            rintro e w31 ⟨A2, n2, c2, rfl, hl2, hc2, hf2, h31⟩
            have x2_7 := NotIn.far hf2 F7.lt
            replace KB := KB.below h31 KB.lt
            replace F7 := F7.below h31 F7.lt
            replace hA1 := hA1.below h31
            have hA2 : At w31 A2 n2 c2 L := at_far hf2 hc2 hl2 H92.out
            replace GB := GB.trans (h31.mono GB.size)
            clear h31 hf2 hc2 hl2
            refine hK.out _ _ ⟨KB, GB⟩ (fun hS => ?_)
            clear hK K
            refine wpAnyH_ready (rs := [5]) (by kernel_rfl) (by simp) ?_
            refine AllReadyH.cons rfl (fun K hK => ?_) (AllReadyH.nil)
            go_simp
            have F8 := Blk.new w31 27 #[.slice none 0 0]
            have lk8 := KB.lt
            have lb8 := GB.size
            have l78 := F7.lt
            have x1_8 := NotIn.new hA1
            have x2_8 := NotIn.new hA2
            replace KB := KB.alloc (.cells #[.slice none 0 0] 27)
            replace F7 := F7.alloc (.cells #[.slice none 0 0] 27)
            replace hA1 := hA1.below ((Below.refl _ _).alloc (Nat.le_refl _) (.cells #[.slice none 0 0] 27))
            replace hA2 := hA2.below ((Below.refl _ _).alloc (Nat.le_refl _) (.cells #[.slice none 0 0] 27))
            replace GB := GB.alloc GB.size (.cells #[.slice none 0 0] 27)
            refine hK.out _ _ ⟨KB, GB⟩ (fun hS => ?_)
            clear hK K
            generalize w31.alloc (.cells #[.slice none 0 0] 27) = U32 at KB GB hS F8 F7 hA1 hA2 ⊢
            generalize w31.heap.size = g8 at F8 lk8 lb8 l78 x1_8 x2_8 ⊢
            refine wpAnyH_ready (rs := [6]) (by kernel_rfl) (by simp) ?_
            refine AllReadyH.cons rfl (fun K hK => ?_) (AllReadyH.nil)
            have d0 := F7.cell 0
            have f0 := F7.frozen 0
            have KB2 := KB.far (p := ⟨g7, 0, none⟩) (by simp; omega) (.slice A1 n1 c1)
            have GB2 := GB.setCell (p := ⟨g7, 0, none⟩) (by simp; omega) (.slice A1 n1 c1)
            have G7 := (put1 (x := (.slice A1 n1 c1)) F7 GB (by omega)).1
            have G8 := F8.far (p := ⟨g7, 0, none⟩) (by simp; omega) (.slice A1 n1 c1)
            have hB1 := hA1.set x1_7 (.slice A1 n1 c1)
            have hB2 := hA2.set x2_7 (.slice A1 n1 c1)
            clear KB GB F7 F8 hA1 hA2 hS
            go_simp
            refine hK.out _ _ ⟨KB2, GB2⟩ (fun hS => ?_)
            clear hK K d0 f0
            generalize U32.setCell ⟨g7, 0, none⟩ (.slice A1 n1 c1) = U33 at KB2 GB2 hS G7 G8 hB1 hB2 ⊢
            have KB := KB2
            have GB := GB2
            have F7 := G7
            have F8 := G8
            have hA1 := hB1
            have hA2 := hB2
            clear KB2 GB2 G7 G8 hB1 hB2
            refine wpAnyH_ready (rs := [7]) (by kernel_rfl) (by simp) ?_
            refine AllReadyH.cons rfl (fun K hK => ?_) (AllReadyH.nil)
            have d0 := F8.cell 0
            have f0 := F8.frozen 0
            have KB2 := KB.far (p := ⟨g8, 0, none⟩) (by simp; omega) (.slice A2 n2 c2)
            have GB2 := GB.setCell (p := ⟨g8, 0, none⟩) (by simp; omega) (.slice A2 n2 c2)
            have G8 := (put1 (x := (.slice A2 n2 c2)) F8 GB (by omega)).1
            have G7 := F7.far (p := ⟨g8, 0, none⟩) (by simp; omega) (.slice A2 n2 c2)
            have hB1 := hA1.set x1_8 (.slice A2 n2 c2)
            have hB2 := hA2.set x2_8 (.slice A2 n2 c2)
            clear KB GB F8 F7 hA1 hA2 hS
            go_simp
            refine hK.out _ _ ⟨KB2, GB2⟩ (fun hS => ?_)
            clear hK K d0 f0
            generalize U33.setCell ⟨g8, 0, none⟩ (.slice A2 n2 c2) = U34 at KB2 GB2 hS G7 G8 hB1 hB2 ⊢
            have KB := KB2
            have GB := GB2
            have F7 := G7
            have F8 := G8
            have hA1 := hB1
            have hA2 := hB2
            clear KB2 GB2 G7 G8 hB1 hB2
            refine wpAnyH_done (by kernel_rfl) ?_ _
            go_wp2_with fail
            go_meet
            exact ⟨g7, g8, A1, n1, c1, A2, n2, c2, rfl, rfl, by omega, by omega, F7, F8, hA1, hA2, KB, GB⟩
          · skip
            go_simp
            have F8 := Blk.new w30 27 #[.slice none 0 0]
            have lk8 := KB.lt
            have lb8 := GB.size
            have l78 := F7.lt
            have x1_8 := NotIn.new hA1
            replace KB := KB.alloc (.cells #[.slice none 0 0] 27)
            replace F7 := F7.alloc (.cells #[.slice none 0 0] 27)
            replace hA1 := hA1.below ((Below.refl _ _).alloc (Nat.le_refl _) (.cells #[.slice none 0 0] 27))
            replace GB := GB.alloc GB.size (.cells #[.slice none 0 0] 27)
            refine hK.out _ _ ⟨KB, GB⟩ (fun hS => ?_)
            clear hK K
            generalize w30.alloc (.cells #[.slice none 0 0] 27) = U35 at KB GB hS F8 F7 hA1 ⊢
            generalize w30.heap.size = g8 at F8 lk8 lb8 l78 x1_8 ⊢
            refine wpAnyH_ready (rs := [3]) (by kernel_rfl) (by simp) ?_
            refine AllReadyH.cons rfl (fun K hK => ?_) (AllReadyH.nil)
            go_simp
            refine (HS.out _ GB).mono ?_
            rintro e w36 ⟨A2, n2, c2, rfl, hl2, hc2, hf2, h36⟩
            have x2_7 := NotIn.far hf2 F7.lt
            have x2_8 := NotIn.far hf2 F8.lt
            replace KB := KB.below h36 KB.lt
            replace F7 := F7.below h36 F7.lt
            replace F8 := F8.below h36 F8.lt
            replace hA1 := hA1.below h36
            have hA2 : At w36 A2 n2 c2 L := at_far hf2 hc2 hl2 H92.out
            replace GB := GB.trans (h36.mono GB.size)
            clear h36 hf2 hc2 hl2
            refine hK.out _ _ ⟨KB, GB⟩ (fun hS => ?_)
            clear hK K
            refine wpAnyH_ready (rs := [6]) (by kernel_rfl) (by simp) ?_
            refine AllReadyH.cons rfl (fun K hK => ?_) (AllReadyH.nil)
            have d0 := F7.cell 0
            have f0 := F7.frozen 0
            have KB2 := KB.far (p := ⟨g7, 0, none⟩) (by simp; omega) (.slice A1 n1 c1)
            have GB2 := GB.setCell (p := ⟨g7, 0, none⟩) (by simp; omega) (.slice A1 n1 c1)
            have G7 := (put1 (x := (.slice A1 n1 c1)) F7 GB (by omega)).1
            have G8 := F8.far (p := ⟨g7, 0, none⟩) (by simp; omega) (.slice A1 n1 c1)
            have hB1 := hA1.set x1_7 (.slice A1 n1 c1)
            have hB2 := hA2.set x2_7 (.slice A1 n1 c1)
            clear KB GB F7 F8 hA1 hA2 hS
            go_simp
            refine hK.out _ _ ⟨KB2, GB2⟩ (fun hS => ?_)
            clear hK K d0 f0
            generalize w36.setCell ⟨g7, 0, none⟩ (.slice A1 n1 c1) = U37 at KB2 GB2 hS G7 G8 hB1 hB2 ⊢
            have KB := KB2
            have GB := GB2
            have F7 := G7
            have F8 := G8
            have hA1 := hB1
            have hA2 := hB2
            clear KB2 GB2 G7 G8 hB1 hB2
            refine wpAnyH_ready (rs := [7]) (by kernel_rfl) (by simp) ?_
            refine AllReadyH.cons rfl (fun K hK => ?_) (AllReadyH.nil)
            have d0 := F8.cell 0
            have f0 := F8.frozen 0
            have KB2 := KB.far (p := ⟨g8, 0, none⟩) (by simp; omega) (.slice A2 n2 c2)
            have GB2 := GB.setCell (p := ⟨g8, 0, none⟩) (by simp; omega) (.slice A2 n2 c2)
            have G8 := (put1 (x := (.slice A2 n2 c2)) F8 GB (by omega)).1
            have G7 := F7.far (p := ⟨g8, 0, none⟩) (by simp; omega) (.slice A2 n2 c2)
            have hB1 := hA1.set x1_8 (.slice A2 n2 c2)
            have hB2 := hA2.set x2_8 (.slice A2 n2 c2)
            clear KB GB F8 F7 hA1 hA2 hS
            go_simp
            refine hK.out _ _ ⟨KB2, GB2⟩ (fun hS => ?_)
            clear hK K d0 f0
            generalize U37.setCell ⟨g8, 0, none⟩ (.slice A2 n2 c2) = U38 at KB2 GB2 hS G7 G8 hB1 hB2 ⊢
            have KB := KB2
            have GB := GB2
            have F7 := G7
            have F8 := G8
            have hA1 := hB1
            have hA2 := hB2
            clear KB2 GB2 G7 G8 hB1 hB2
            refine wpAnyH_done (by kernel_rfl) ?_ _
            go_wp2_with fail
            go_meet
            exact ⟨g7, g8, A1, n1, c1, A2, n2, c2, rfl, rfl, by omega, by omega, F7, F8, hA1, hA2, KB, GB⟩
        · skip
          go_simp
          have F8 := Blk.new U29 27 #[.slice none 0 0]
          have lk8 := KB.lt
          have lb8 := GB.size
          have l78 := F7.lt
          replace KB := KB.alloc (.cells #[.slice none 0 0] 27)
          replace F7 := F7.alloc (.cells #[.slice none 0 0] 27)
          replace GB := GB.alloc GB.size (.cells #[.slice none 0 0] 27)
          refine hK.out _ _ ⟨KB, GB⟩ (fun hS => ?_)
          clear hK K
          generalize U29.alloc (.cells #[.slice none 0 0] 27) = U39 at KB GB hS F8 F7 ⊢
          generalize U29.heap.size = g8 at F8 lk8 lb8 l78 ⊢
          refine wpAnyH_ready (rs := [1]) (by kernel_rfl) (by simp) ?_
          refine AllReadyH.cons rfl (fun K hK => ?_) (AllReadyH.nil)
          go_simp
          refine (HS.out _ GB).mono ?_
          rintro e w40 ⟨A1, n1, c1, rfl, hl1, hc1, hf1, h40⟩
          have x1_7 := NotIn.far hf1 F7.lt
          have x1_8 := NotIn.far hf1 F8.lt
          replace KB := KB.below h40 KB.lt
          replace F7 := F7.below h40 F7.lt
          replace F8 := F8.below h40 F8.lt
          have hA1 : At w40 A1 n1 c1 L := at_far hf1 hc1 hl1 H91.out
          replace GB := GB.trans (h40.mono GB.size)
          clear h40 hf1 hc1 hl1
          refine hK.out _ _ ⟨KB, GB⟩ (fun hS => ?_)
          clear hK K
          refine wpAnyH_ready (rs := [3]) (by kernel_rfl) (by simp) ?_
          refine AllReadyH.cons rfl (fun K hK => ?_) (AllReadyH.nil)
          go_simp
          refine (HS.out _ GB).mono ?_
          rintro e w41 ⟨A2, n2, c2, rfl, hl2, hc2, hf2, h41⟩
          have x2_7 := NotIn.far hf2 F7.lt
          have x2_8 := NotIn.far hf2 F8.lt
          replace KB := KB.below h41 KB.lt
          replace F7 := F7.below h41 F7.lt
          replace F8 := F8.below h41 F8.lt
          replace hA1 := hA1.below h41
          have hA2 : At w41 A2 n2 c2 L := at_far hf2 hc2 hl2 H92.out
          replace GB := GB.trans (h41.mono GB.size)
          clear h41 hf2 hc2 hl2
          refine hK.out _ _ ⟨KB, GB⟩ (fun hS => ?_)
          clear hK K
          refine wpAnyH_ready (rs := [6]) (by kernel_rfl) (by simp) ?_
          refine AllReadyH.cons rfl (fun K hK => ?_) (AllReadyH.nil)
          have d0 := F7.cell 0
          have f0 := F7.frozen 0
          have KB2 := KB.far (p := ⟨g7, 0, none⟩) (by simp; omega) (.slice A1 n1 c1)
          have GB2 := GB.setCell (p := ⟨g7, 0, none⟩) (by simp; omega) (.slice A1 n1 c1)
          have G7 := (put1 (x := (.slice A1 n1 c1)) F7 GB (by omega)).1
          have G8 := F8.far (p := ⟨g7, 0, none⟩) (by simp; omega) (.slice A1 n1 c1)
          have hB1 := hA1.set x1_7 (.slice A1 n1 c1)
          have hB2 := hA2.set x2_7 (.slice A1 n1 c1)
          clear KB GB F7 F8 hA1 hA2 hS
          go_simp
          refine hK.out _ _ ⟨KB2, GB2⟩ (fun hS => ?_)
          clear hK K d0 f0
          generalize w41.setCell ⟨g7, 0, none⟩ (.slice A1 n1 c1) = U42 at KB2 GB2 hS G7 G8 hB1 hB2 ⊢
          have KB := KB2
          have GB := GB2
          have F7 := G7
          have F8 := G8
          have hA1 := hB1
          have hA2 := hB2
          clear KB2 GB2 G7 G8 hB1 hB2
          refine wpAnyH_ready (rs := [7]) (by kernel_rfl) (by simp) ?_
          refine AllReadyH.cons rfl (fun K hK => ?_) (AllReadyH.nil)
          have d0 := F8.cell 0
          have f0 := F8.frozen 0
          have KB2 := KB.far (p := ⟨g8, 0, none⟩) (by simp; omega) (.slice A2 n2 c2)
          have GB2 := GB.setCell (p := ⟨g8, 0, none⟩) (by simp; omega) (.slice A2 n2 c2)
          have G8 := (put1 (x := (.slice A2 n2 c2)) F8 GB (by omega)).1
          have G7 := F7.far (p := ⟨g8, 0, none⟩) (by simp; omega) (.slice A2 n2 c2)
          have hB1 := hA1.set x1_8 (.slice A2 n2 c2)
          have hB2 := hA2.set x2_8 (.slice A2 n2 c2)
          clear KB GB F8 F7 hA1 hA2 hS
          go_simp
          refine hK.out _ _ ⟨KB2, GB2⟩ (fun hS => ?_)
          clear hK K d0 f0
          generalize U42.setCell ⟨g8, 0, none⟩ (.slice A2 n2 c2) = U43 at KB2 GB2 hS G7 G8 hB1 hB2 ⊢
          have KB := KB2
          have GB := GB2
          have F7 := G7
          have F8 := G8
          have hA1 := hB1
          have hA2 := hB2
          clear KB2 GB2 G7 G8 hB1 hB2
          refine wpAnyH_done (by kernel_rfl) ?_ _
          go_wp2_with fail
          go_meet
          exact ⟨g7, g8, A1, n1, c1, A2, n2, c2, rfl, rfl, by omega, by omega, F7, F8, hA1, hA2, KB, GB⟩
      · skip
        go_simp
        have F8 := Blk.new V 27 #[.slice none 0 0]
        have lk8 := KB.lt
        have lb8 := GB.size
        replace KB := KB.alloc (.cells #[.slice none 0 0] 27)
        replace GB := GB.alloc GB.size (.cells #[.slice none 0 0] 27)
        refine hK.out _ _ ⟨KB, GB⟩ (fun hS => ?_)
        clear hK K
        generalize V.alloc (.cells #[.slice none 0 0] 27) = U44 at KB GB hS F8 ⊢
        generalize V.heap.size = g8 at F8 lk8 lb8  ⊢
        refine wpAnyH_ready (rs := [1, 4]) (by kernel_rfl) (by simp) ?_
        refine AllReadyH.cons rfl (fun K hK => ?_) (AllReadyH.cons rfl (fun K hK => ?_) (AllReadyH.nil))
        · skip
          go_simp
          refine (HS.out _ GB).mono ?_
          rintro e w45 ⟨A1, n1, c1, rfl, hl1, hc1, hf1, h45⟩
          have x1_8 := NotIn.far hf1 F8.lt
          replace KB := KB.below h45 KB.lt
          replace F8 := F8.below h45 F8.lt
          have hA1 : At w45 A1 n1 c1 L := at_far hf1 hc1 hl1 H91.out
          replace GB := GB.trans (h45.mono GB.size)
          clear h45 hf1 hc1 hl1
          refine hK.out _ _ ⟨KB, GB⟩ (fun hS => ?_)
          clear hK K
          refine wpAnyH_ready (rs := [3, 4]) (by kernel_rfl) (by simp) ?_
          refine AllReadyH.cons rfl (fun K hK => ?_) (AllReadyH.cons rfl (fun K hK => ?_) (AllReadyH.nil))
          · skip
            go_simp
            refine (HS.out _ GB).mono ?_
            rintro e w46 ⟨A2, n2, c2, rfl, hl2, hc2, hf2, h46⟩
            have x2_8 := NotIn.far hf2 F8.lt
            replace KB := KB.below h46 KB.lt
            replace F8 := F8.below h46 F8.lt
            replace hA1 := hA1.below h46
            have hA2 : At w46 A2 n2 c2 L := at_far hf2 hc2 hl2 H92.out
            replace GB := GB.trans (h46.mono GB.size)
            clear h46 hf2 hc2 hl2
            refine hK.out _ _ ⟨KB, GB⟩ (fun hS => ?_)
            clear hK K
            refine wpAnyH_ready (rs := [4]) (by kernel_rfl) (by simp) ?_
            refine AllReadyH.cons rfl (fun K hK => ?_) (AllReadyH.nil)
            go_simp
            have F7 := Blk.new w46 27 #[.slice none 0 0]
            have lk7 := KB.lt
            have lb7 := GB.size
            have l87 := F8.lt
            have x1_7 := NotIn.new hA1
            have x2_7 := NotIn.new hA2
            replace KB := KB.alloc (.cells #[.slice none 0 0] 27)
            replace F8 := F8.alloc (.cells #[.slice none 0 0] 27)
            replace hA1 := hA1.below ((Below.refl _ _).alloc (Nat.le_refl _) (.cells #[.slice none 0 0] 27))
            replace hA2 := hA2.below ((Below.refl _ _).alloc (Nat.le_refl _) (.cells #[.slice none 0 0] 27))
            replace GB := GB.alloc GB.size (.cells #[.slice none 0 0] 27)
            refine hK.out _ _ ⟨KB, GB⟩ (fun hS => ?_)
            clear hK K
            generalize w46.alloc (.cells #[.slice none 0 0] 27) = U47 at KB GB hS F7 F8 hA1 hA2 ⊢
            generalize w46.heap.size = g7 at F7 lk7 lb7 l87 x1_7 x2_7 ⊢
            refine wpAnyH_ready (rs := [6]) (by kernel_rfl) (by simp) ?_
            refine AllReadyH.cons rfl (fun K hK => ?_) (AllReadyH.nil)
            have d0 := F7.cell 0
            have f0 := F7.frozen 0
            have KB2 := KB.far (p := ⟨g7, 0, none⟩) (by simp; omega) (.slice A1 n1 c1)
            have GB2 := GB.setCell (p := ⟨g7, 0, none⟩) (by simp; omega) (.slice A1 n1 c1)
            have G7 := (put1 (x := (.slice A1 n1 c1)) F7 GB (by omega)).1
            have G8 := F8.far (p := ⟨g7, 0, none⟩) (by simp; omega) (.slice A1 n1 c1)
            have hB1 := hA1.set x1_7 (.slice A1 n1 c1)
            have hB2 := hA2.set x2_7 (.slice A1 n1 c1)
            clear KB GB F7 F8 hA1 hA2 hS
            go_simp
            refine hK.out _ _ ⟨KB2, GB2⟩ (fun hS => ?_)
            clear hK K d0 f0
            generalize U47.setCell ⟨g7, 0, none⟩ (.slice A1 n1 c1) = U48 at KB2 GB2 hS G7 G8 hB1 hB2 ⊢
            have KB := KB2
            have GB := GB2
            have F7 := G7
            have F8 := G8
            have hA1 := hB1
            have hA2 := hB2
            clear KB2 GB2 G7 G8 hB1 hB2
            refine wpAnyH_ready (rs := [7]) (by kernel_rfl) (by simp) ?_
            refine AllReadyH.cons rfl (fun K hK => ?_) (AllReadyH.nil)
            have d0 := F8.cell 0
            have f0 := F8.frozen 0
            have KB2 := KB.far (p := ⟨g8, 0, none⟩) (by simp; omega) (.slice A2 n2 c2)
            have GB2 := GB.setCell (p := ⟨g8, 0, none⟩) (by simp; omega) (.slice A2 n2 c2)
            have G8 := (put1 (x := (.slice A2 n2 c2)) F8 GB (by omega)).1
            have G7 := F7.far (p := ⟨g8, 0, none⟩) (by simp; omega) (.slice A2 n2 c2)
            have hB1 := hA1.set x1_8 (.slice A2 n2 c2)
            have hB2 := hA2.set x2_8 (.slice A2 n2 c2)
            clear KB GB F8 F7 hA1 hA2 hS
            go_simp
            refine hK.out _ _ ⟨KB2, GB2⟩ (fun hS => ?_)
            clear hK K d0 f0
            generalize U48.setCell ⟨g8, 0, none⟩ (.slice A2 n2 c2) = U49 at KB2 GB2 hS G7 G8 hB1 hB2 ⊢
            have KB := KB2
            have GB := GB2
            have F7 := G7
            have F8 := G8
            have hA1 := hB1
            have hA2 := hB2
            clear KB2 GB2 G7 G8 hB1 hB2
            refine wpAnyH_done (by kernel_rfl) ?_ _
            go_wp2_with fail
            go_meet
            exact ⟨g7, g8, A1, n1, c1, A2, n2, c2, rfl, rfl, by omega, by omega, F7, F8, hA1, hA2, KB, GB⟩
          · skip
            go_simp
            have F7 := Blk.new w45 27 #[.slice none 0 0]
            have lk7 := KB.lt
            have lb7 := GB.size
            have l87 := F8.lt
            have x1_7 := NotIn.new hA1
            replace KB := KB.alloc (.cells #[.slice none 0 0] 27)
            replace F8 := F8.alloc (.cells #[.slice none 0 0] 27)
            replace hA1 := hA1.below ((Below.refl _ _).alloc (Nat.le_refl _) (.cells #[.slice none 0 0] 27))
            replace GB := GB.alloc GB.size (.cells #[.slice none 0 0] 27)
            refine hK.out _ _ ⟨KB, GB⟩ (fun hS => ?_)
            clear hK K
            generalize w45.alloc (.cells #[.slice none 0 0] 27) = U50 at KB GB hS F7 F8 hA1 ⊢
            generalize w45.heap.size = g7 at F7 lk7 lb7 l87 x1_7 ⊢
            refine wpAnyH_ready (rs := [3]) (by kernel_rfl) (by simp) ?_
            refine AllReadyH.cons rfl (fun K hK => ?_) (AllReadyH.nil)
            go_simp
            refine (HS.out _ GB).mono ?_
            rintro e w51 ⟨A2, n2, c2, rfl, hl2, hc2, hf2, h51⟩
            have x2_7 := NotIn.far hf2 F7.lt
            have x2_8 := NotIn.far hf2 F8.lt
            replace KB := KB.below h51 KB.lt
            replace F7 := F7.below h51 F7.lt
            replace F8 := F8.below h51 F8.lt
            replace hA1 := hA1.below h51
            have hA2 : At w51 A2 n2 c2 L := at_far hf2 hc2 hl2 H92.out
            replace GB := GB.trans (h51.mono GB.size)
            clear h51 hf2 hc2 hl2
            refine hK.out _ _ ⟨KB, GB⟩ (fun hS => ?_)
            clear hK K
            refine wpAnyH_ready (rs := [6]) (by kernel_rfl) (by simp) ?_
            refine AllReadyH.cons rfl (fun K hK => ?_) (AllReadyH.nil)
            have d0 := F7.cell 0
            have f0 := F7.frozen 0
            have KB2 := KB.far (p := ⟨g7, 0, none⟩) (by simp; omega) (.slice A1 n1 c1)
            have GB2 := GB.setCell (p := ⟨g7, 0, none⟩) (by simp; omega) (.slice A1 n1 c1)
            have G7 := (put1 (x := (.slice A1 n1 c1)) F7 GB (by omega)).1
            have G8 := F8.far (p := ⟨g7, 0, none⟩) (by simp; omega) (.slice A1 n1 c1)
            have hB1 := hA1.set x1_7 (.slice A1 n1 c1)
            have hB2 := hA2.set x2_7 (.slice A1 n1 c1)
            clear KB GB F7 F8 hA1 hA2 hS
            go_simp
            refine hK.out _ _ ⟨KB2, GB2⟩ (fun hS => ?_)
            clear hK K d0 f0
            generalize w51.setCell ⟨g7, 0, none⟩ (.slice A1 n1 c1) = U52 at KB2 GB2 hS G7 G8 hB1 hB2 ⊢
            have KB := KB2
            have GB := GB2
            have F7 := G7
            have F8 := G8
            have hA1 := hB1
            have hA2 := hB2
            clear KB2 GB2 G7 G8 hB1 hB2
            refine wpAnyH_ready (rs := [7]) (by kernel_rfl) (by simp) ?_
            refine AllReadyH.cons rfl (fun K hK => ?_) (AllReadyH.nil)
            have d0 := F8.cell 0
            have f0 := F8.frozen 0
            have KB2 := KB.far (p := ⟨g8, 0, none⟩) (by simp; omega) (.slice A2 n2 c2)
            have GB2 := GB.setCell (p := ⟨g8, 0, none⟩) (by simp; omega) (.slice A2 n2 c2)
            have G8 := (put1 (x := (.slice A2 n2 c2)) F8 GB (by omega)).1
            have G7 := F7.far (p := ⟨g8, 0, none⟩) (by simp; omega) (.slice A2 n2 c2)
            have hB1 := hA1.set x1_8 (.slice A2 n2 c2)
            have hB2 := hA2.set x2_8 (.slice A2 n2 c2)
            clear KB GB F8 F7 hA1 hA2 hS
            go_simp
            refine hK.out _ _ ⟨KB2, GB2⟩ (fun hS => ?_)
            clear hK K d0 f0
            generalize U52.setCell ⟨g8, 0, none⟩ (.slice A2 n2 c2) = U53 at KB2 GB2 hS G7 G8 hB1 hB2 ⊢
            have KB := KB2
            have GB := GB2
            have F7 := G7
            have F8 := G8
            have hA1 := hB1
            have hA2 := hB2
            clear KB2 GB2 G7 G8 hB1 hB2
            refine wpAnyH_done (by kernel_rfl) ?_ _
            go_wp2_with fail
            go_meet
            exact ⟨g7, g8, A1, n1, c1, A2, n2, c2, rfl, rfl, by omega, by omega, F7, F8, hA1, hA2, KB, GB⟩
        · skip
          go_simp
          have F7 := Blk.new U44 27 #[.slice none 0 0]
          have lk7 := KB.lt
          have lb7 := GB.size
          have l87 := F8.lt
          replace KB := KB.alloc (.cells #[.slice none 0 0] 27)
          replace F8 := F8.alloc (.cells #[.slice none 0 0] 27)
          replace GB := GB.alloc GB.size (.cells #[.slice none 0 0] 27)
          refine hK.out _ _ ⟨KB, GB⟩ (fun hS => ?_)
          clear hK K
          generalize U44.alloc (.cells #[.slice none 0 0] 27) = U54 at KB GB hS F7 F8 ⊢
          generalize U44.heap.size = g7 at F7 lk7 lb7 l87 ⊢
          refine wpAnyH_ready (rs := [1]) (by kernel_rfl) (by simp) ?_
          refine AllReadyH.cons rfl (fun K hK => ?_) (AllReadyH.nil)
          go_simp
          refine (HS.out _ GB).mono ?_
          rintro e w55 ⟨A1, n1, c1, rfl, hl1, hc1, hf1, h55⟩
          have x1_7 := NotIn.far hf1 F7.lt
          have x1_8 := NotIn.far hf1 F8.lt
          replace KB := KB.below h55 KB.lt
          replace F7 := F7.below h55 F7.lt
          replace F8 := F8.below h55 F8.lt
          have hA1 : At w55 A1 n1 c1 L := at_far hf1 hc1 hl1 H91.out
          replace GB := GB.trans (h55.mono GB.size)
          clear h55 hf1 hc1 hl1
          refine hK.out _ _ ⟨KB, GB⟩ (fun hS => ?_)
          clear hK K
          refine wpAnyH_ready (rs := [3]) (by kernel_rfl) (by simp) ?_
          refine AllReadyH.cons rfl (fun K hK => ?_) (AllReadyH.nil)
          go_simp
          refine (HS.out _ GB).mono ?_
          rintro e w56 ⟨A2, n2, c2, rfl, hl2, hc2, hf2, h56⟩
          have x2_7 := NotIn.far hf2 F7.lt
          have x2_8 := NotIn.far hf2 F8.lt
          replace KB := KB.below h56 KB.lt
          replace F7 := F7.below h56 F7.lt
          replace F8 := F8.below h56 F8.lt
          replace hA1 := hA1.below h56
          have hA2 : At w56 A2 n2 c2 L := at_far hf2 hc2 hl2 H92.out
          replace GB := GB.trans (h56.mono GB.size)
          clear h56 hf2 hc2 hl2
          refine hK.out _ _ ⟨KB, GB⟩ (fun hS => ?_)
          clear hK K
          refine wpAnyH_ready (rs := [6]) (by kernel_rfl) (by simp) ?_
          refine AllReadyH.cons rfl (fun K hK => ?_) (AllReadyH.nil)
          have d0 := F7.cell 0
          have f0 := F7.frozen 0
          have KB2 := KB.far (p := ⟨g7, 0, none⟩) (by simp; omega) (.slice A1 n1 c1)
          have GB2 := GB.setCell (p := ⟨g7, 0, none⟩) (by simp; omega) (.slice A1 n1 c1)
          have G7 := (put1 (x := (.slice A1 n1 c1)) F7 GB (by omega)).1
          have G8 := F8.far (p := ⟨g7, 0, none⟩) (by simp; omega) (.slice A1 n1 c1)
          have hB1 := hA1.set x1_7 (.slice A1 n1 c1)
          have hB2 := hA2.set x2_7 (.slice A1 n1 c1)
          clear KB GB F7 F8 hA1 hA2 hS
          go_simp
          refine hK.out _ _ ⟨KB2, GB2⟩ (fun hS => ?_)
          clear hK K d0 f0
          generalize w56.setCell ⟨g7, 0, none⟩ (.slice A1 n1 c1) = U57 at KB2 GB2 hS G7 G8 hB1 hB2 ⊢
          have KB := KB2
          have GB := GB2
          have F7 := G7
          have F8 := G8
          have hA1 := hB1
          have hA2 := hB2
          clear KB2 GB2 G7 G8 hB1 hB2
          refine wpAnyH_ready (rs := [7]) (by kernel_rfl) (by simp) ?_
          refine AllReadyH.cons rfl (fun K hK => ?_) (AllReadyH.nil)
          have d0 := F8.cell 0
          have f0 := F8.frozen 0
          have KB2 := KB.far (p := ⟨g8, 0, none⟩) (by simp; omega) (.slice A2 n2 c2)
          have GB2 := GB.setCell (p := ⟨g8, 0, none⟩) (by simp; omega) (.slice A2 n2 c2)
          have G8 := (put1 (x := (.slice A2 n2 c2)) F8 GB (by omega)).1
          have G7 := F7.far (p := ⟨g8, 0, none⟩) (by simp; omega) (.slice A2 n2 c2)
          have hB1 := hA1.set x1_8 (.slice A2 n2 c2)
          have hB2 := hA2.set x2_8 (.slice A2 n2 c2)
          clear KB GB F8 F7 hA1 hA2 hS
          go_simp
          refine hK.out _ _ ⟨KB2, GB2⟩ (fun hS => ?_)
          clear hK K d0 f0
          generalize U57.setCell ⟨g8, 0, none⟩ (.slice A2 n2 c2) = U58 at KB2 GB2 hS G7 G8 hB1 hB2 ⊢
          have KB := KB2
          have GB := GB2
          have F7 := G7
          have F8 := G8
          have hA1 := hB1
          have hA2 := hB2
          clear KB2 GB2 G7 G8 hB1 hB2
          refine wpAnyH_done (by kernel_rfl) ?_ _
          go_wp2_with fail
          go_meet
          exact ⟨g7, g8, A1, n1, c1, A2, n2, c2, rfl, rfl, by omega, by omega, F7, F8, hA1, hA2, KB, GB⟩
  case rest =>
    clear KB GB HS
    obtain ⟨g7, g8, A1, n1, c1, A2, n2, c2, rfl, rfl, l7, l8, F7, F8, hA1, hA2, KB, B⟩ := hcut
    clear KB
    have hlen := hA2.len
    have hRx := rrightT_any A2 n2 c2 L _ hA2.1 (by have := hA2.2.2; unfold maxLen; omega)
    obtain ⟨rb, hr⟩ : ∃ rb, rightT L = rb := ⟨_, rfl⟩
    rw [hr] at hRx
    have HRx := Lib.hid hRx
    have p8 := F8.cell 0
    clear hRx
    go_wp2_with fail
    refine HRx.out.mono ?_
    rintro e w2 ⟨rfl, h2⟩
    replace F7 := F7.below h2 F7.lt
    replace F8 := F8.below h2 F8.lt
    replace hA1 := hA1.below h2
    replace hA2 := hA2.below h2
    replace B := B.trans (h2.mono B.size)
    clear h2 p8 HRx
    go_wp2_with fail
    go_loopw [32] (fun jv wr => ∃ j : Nat, j ≤ n' ∧ j ≤ 12 ∧ jv = .int .i64 (j : Int) ∧ Blk wr g7 27 #[.slice A1 n1 c1] ∧ Blk wr g8 27 #[.slice A2 n2 c2] ∧ At wr A1 n1 c1 L ∧ At wr A2 n2 c2 L ∧ Below w.heap.size w wr) (fun jv _ => n' - (intOf jv).toNat)
    case atStart => exact ⟨0, by omega, by omega, rfl, F7, F8, hA1, hA2, B⟩
    case round =>
      clear F7 F8 hA1 hA2 B
      obtain ⟨j, hj, hj12, rfl, F7, F8, hA1, hA2, B⟩ := hrel
      by_cases hjn : j < n'
      · obtain ⟨⟨x, y⟩, hm⟩ := elem_at (l := ps) (k := j) (by rw [HL'.out]; exact hjn)
        obtain ⟨ad, rfl, hb, d0, d1⟩ := two_at (HR'.out.below B) hm
        have hsz := B.size
        clear hm
        by_cases h12 : j = 12
        · have e12 : ((j : Int) == 12) = true := by simp; omega
          have F7b := F7.alloc (.cells #[.int .i64 x, .int .i64 y] 43)
          have F8b := F8.alloc (.cells #[.int .i64 x, .int .i64 y] 43)
          have hA1b := hA1.below ((Below.refl _ _).alloc (Nat.le_refl _) (.cells #[.int .i64 x, .int .i64 y] 43))
          have hA2b := hA2.below ((Below.refl _ _).alloc (Nat.le_refl _) (.cells #[.int .i64 x, .int .i64 y] 43))
          have Bb := B.alloc B.size (.cells #[.int .i64 x, .int .i64 y] 43)
          have p7 := F7b.cell 0
          have p8 := F8b.cell 0
          have HSm := Lib.hid (rsame_any A1 A2 n1 c1 n2 c2 L L _ hA1b.1 hA2b.1 (by have := hA1b.2.2; unfold maxLen; omega))
          rw [show sameB L L = true from decide_eq_true rfl] at HSm
          clear h12 hj12 F7 F8 hA1 hA2 B F7b F8b hA1b hA2b
          go_wp2_with fail
          refine HSm.out.mono ?_
          rintro e w9 ⟨rfl, h9'⟩
          go_wp2
          go_ret
          exact ⟨rfl, Bb.trans (h9'.mono Bb.size)⟩
        · have e12 : ((j : Int) == 12) = false := by simp; omega
          have HJ := Lib.hid (show j + 1 ≤ n' ∧ j + 1 ≤ 12 by omega)
          have K := Blk.new wr 43 #[.int .i64 x, .int .i64 y]
          replace F7 := F7.alloc (.cells #[.int .i64 x, .int .i64 y] 43)
          replace F8 := F8.alloc (.cells #[.int .i64 x, .int .i64 y] 43)
          replace hA1 := hA1.below ((Below.refl _ _).alloc (Nat.le_refl _) (.cells #[.int .i64 x, .int .i64 y] 43))
          replace hA2 := hA2.below ((Below.refl _ _).alloc (Nat.le_refl _) (.cells #[.int .i64 x, .int .i64 y] 43))
          replace B := B.alloc B.size (.cells #[.int .i64 x, .int .i64 y] 43)
          clear h12 hj12 hb
          obtain ⟨g11, hg11⟩ : ∃ g, wr.heap.size = g := ⟨_, rfl⟩
          rw [hg11] at K
          cases rb with
          | false =>
            have hd := fun u h => HDi A1 n1 c1 L x y u h
            rw [show distR L x y = (0, 160) from by unfold distR; rw [hr]; rfl] at hd
            have HD := Lib.hid (hd _ hA1)
            clear hd
            have p7 := F7.cell 0
            have p8 := F8.cell 0
            have q0 := K.cell 0
            have q1 := K.cell 1
            go_wp2_with fail
            refine (HD.out).mono ?_
            rintro e w3 ⟨rfl, h2⟩
            replace F7 := F7.below h2 F7.lt
            replace F8 := F8.below h2 F8.lt
            replace K := K.below h2 K.lt
            replace hA1 := hA1.below h2
            replace hA2 := hA2.below h2
            replace B := B.trans (h2.mono B.size)
            clear h2 p7 p8 q0 q1
            have p7 := F7.cell 0
            have p8 := F8.cell 0
            have q0 := K.cell 0
            have q1 := K.cell 1
            go_wp2_with fail
            go_loopw [80] (fun iv wr => ∃ i : Nat, i ≤ m' ∧ i ≤ 6 ∧ iv = .int .i64 (i : Int) ∧ Blk wr g7 27 #[.slice A1 n1 c1] ∧ Blk wr g8 27 #[.slice A2 n2 c2] ∧ Blk wr g11 43 #[.int .i64 x, .int .i64 y] ∧ At wr A1 n1 c1 L ∧ At wr A2 n2 c2 L ∧ Below w.heap.size w wr) (fun iv _ => m' - (intOf iv).toNat)
            case atStart => exact ⟨0, by omega, by omega, rfl, F7, F8, K, hA1, hA2, B⟩
            case round =>
              clear F7 F8 K hA1 hA2 B
              obtain ⟨i, hi, hi6, rfl, F7, F8, K, hA1, hA2, B⟩ := hrel
              by_cases him : i < m'
              · obtain ⟨ad3, v3, rfl, _, hx3, hc3⟩ := (HS'.out.below B).at_ him
                obtain ⟨s, hs3, rfl⟩ := us_at hx3
                obtain ⟨s0, s1⟩ := HU.out i s hs3
                have k2 : (0 : Int) ≤ (i : Int) := by omega
                have k3 : (i : Int) < (m' : Int) := by omega
                clear hx3 hs3
                by_cases h6 : i = 6
                · have e6 : ((i : Int) == 6) = true := by simp; omega
                  clear h6 hi6 s0 s1
                  go_wp2
                  go_roundw
                  case rel => exact ⟨j + 1, HJ.out.1, HJ.out.2, by go_num, F7, F8, hA1, hA2, B⟩
                  case measure => have := HJ.out.1; simp [intOf]; omega
                · have e6 : ((i : Int) == 6) = false := by simp; omega
                  have HI := Lib.hid (show i + 1 ≤ m' ∧ i + 1 ≤ 6 by omega)
                  clear h6 hi6
                  have hne := HNe A1 n1 c1 L x s wr hA1 s0 s1
                  rw [show nearR L x s = ([], 160) from by unfold nearR; rw [hr]; rfl] at hne
                  have HNx := Lib.hid hne
                  clear hne
                  have p7 := F7.cell 0
                  have p8 := F8.cell 0
                  have q0 := K.cell 0
                  have q1 := K.cell 1
                  go_wp2_with fail
                  refine HNx.out.mono ?_
                  rintro e w3 ⟨A3, n3, c3, rfl, hn3, hc3, hr3, h2⟩
                  obtain rfl : n3 = 0 := hn3
                  clear hr3
                  replace F7 := F7.below h2 F7.lt
                  replace F8 := F8.below h2 F8.lt
                  replace K := K.below h2 K.lt
                  replace hA1 := hA1.below h2
                  replace hA2 := hA2.below h2
                  replace B := B.trans (h2.mono B.size)
                  clear h2 hc3 HNx p7 p8 q0 q1
                  have p7 := F7.cell 0
                  have p8 := F8.cell 0
                  have q0 := K.cell 0
                  have q1 := K.cell 1
                  have HSa := Lib.hid (same_none A3 c3 w3)
                  go_wp2_with fail
                  refine (HSa.out).mono ?_
                  rintro e w' ⟨rfl, q, rfl⟩
                  have B9 := below_drewN B q
                  replace F7 := F7.drewN q
                  replace F8 := F8.drewN q
                  replace K := K.drewN q
                  replace hA1 := hA1.below (below_drewN (Below.refl _ _) q)
                  replace hA2 := hA2.below (below_drewN (Below.refl _ _) q)
                  clear p7 p8 q0 q1
                  go_wp2
                  go_roundw
                  case rel => exact ⟨i + 1, HI.out.1, HI.out.2, by go_num, F7, F8, K, hA1, hA2, B9⟩
                  case measure => have := HI.out.1; simp [intOf]; omega
              · obtain rfl : m' = i := by omega
                clear hi6
                go_wp2
                go_roundw
                case rel => exact ⟨j + 1, HJ.out.1, HJ.out.2, by go_num, F7, F8, hA1, hA2, B⟩
                case measure => have := HJ.out.1; simp [intOf]; omega
          | true =>
            cases hca : cpuT L.length x with
            | false =>
              have hd := fun u h => HDi A1 n1 c1 L x y u h
              rw [show distR L x y = (0, 2) from by unfold distR; rw [if_pos hr, hca]; rfl] at hd
              have HD := Lib.hid (hd _ hA1)
              clear hd
              have p7 := F7.cell 0
              have p8 := F8.cell 0
              have q0 := K.cell 0
              have q1 := K.cell 1
              go_wp2_with fail
              refine (HD.out).mono ?_
              rintro e w3 ⟨rfl, h2⟩
              replace F7 := F7.below h2 F7.lt
              replace F8 := F8.below h2 F8.lt
              replace K := K.below h2 K.lt
              replace hA1 := hA1.below h2
              replace hA2 := hA2.below h2
              replace B := B.trans (h2.mono B.size)
              clear h2 p7 p8 q0 q1
              have p7 := F7.cell 0
              have p8 := F8.cell 0
              have q0 := K.cell 0
              have q1 := K.cell 1
              have HCx := Lib.hid (fun u => rcpuT_any A2 n2 c2 x u)
              rw [show cpuT n2 x = false by rw [← hlen]; exact hca] at HCx
              go_wp2_with fail
              refine (HCx.out _).mono ?_
              rintro e w4 ⟨rfl, h2⟩
              replace F7 := F7.below h2 F7.lt
              replace F8 := F8.below h2 F8.lt
              replace K := K.below h2 K.lt
              replace hA1 := hA1.below h2
              replace hA2 := hA2.below h2
              replace B := B.trans (h2.mono B.size)
              clear h2 p7 p8 q0 q1
              have p7 := F7.cell 0
              have p8 := F8.cell 0
              have q0 := K.cell 0
              have q1 := K.cell 1
              go_wp2_with fail
              go_loopw [80] (fun iv wr => ∃ i : Nat, i ≤ m' ∧ i ≤ 6 ∧ iv = .int .i64 (i : Int) ∧ Blk wr g7 27 #[.slice A1 n1 c1] ∧ Blk wr g8 27 #[.slice A2 n2 c2] ∧ Blk wr g11 43 #[.int .i64 x, .int .i64 y] ∧ At wr A1 n1 c1 L ∧ At wr A2 n2 c2 L ∧ Below w.heap.size w wr) (fun iv _ => m' - (intOf iv).toNat)
              case atStart => exact ⟨0, by omega, by omega, rfl, F7, F8, K, hA1, hA2, B⟩
              case round =>
                clear F7 F8 K hA1 hA2 B
                obtain ⟨i, hi, hi6, rfl, F7, F8, K, hA1, hA2, B⟩ := hrel
                by_cases him : i < m'
                · obtain ⟨ad3, v3, rfl, _, hx3, hc3⟩ := (HS'.out.below B).at_ him
                  obtain ⟨s, hs3, rfl⟩ := us_at hx3
                  obtain ⟨s0, s1⟩ := HU.out i s hs3
                  have k2 : (0 : Int) ≤ (i : Int) := by omega
                  have k3 : (i : Int) < (m' : Int) := by omega
                  clear hx3 hs3
                  by_cases h6 : i = 6
                  · have e6 : ((i : Int) == 6) = true := by simp; omega
                    clear h6 hi6 s0 s1
                    go_wp2
                    go_roundw
                    case rel => exact ⟨j + 1, HJ.out.1, HJ.out.2, by go_num, F7, F8, hA1, hA2, B⟩
                    case measure => have := HJ.out.1; simp [intOf]; omega
                  · have e6 : ((i : Int) == 6) = false := by simp; omega
                    have HI := Lib.hid (show i + 1 ≤ m' ∧ i + 1 ≤ 6 by omega)
                    clear h6 hi6
                    have hne := HNe A1 n1 c1 L x s wr hA1 s0 s1
                    rw [show nearR L x s = ([], 2) from by unfold nearR; rw [if_pos hr, hca]; rfl] at hne
                    have HNx := Lib.hid hne
                    clear hne
                    have p7 := F7.cell 0
                    have p8 := F8.cell 0
                    have q0 := K.cell 0
                    have q1 := K.cell 1
                    go_wp2_with fail
                    refine HNx.out.mono ?_
                    rintro e w3 ⟨A3, n3, c3, rfl, hn3, hc3, hr3, h2⟩
                    obtain rfl : n3 = 0 := hn3
                    clear hr3
                    replace F7 := F7.below h2 F7.lt
                    replace F8 := F8.below h2 F8.lt
                    replace K := K.below h2 K.lt
                    replace hA1 := hA1.below h2
                    replace hA2 := hA2.below h2
                    replace B := B.trans (h2.mono B.size)
                    clear h2 hc3 HNx p7 p8 q0 q1
                    have p7 := F7.cell 0
                    have p8 := F8.cell 0
                    have q0 := K.cell 0
                    have q1 := K.cell 1
                    have HCu := Lib.hid (fun u => rcpuT_any A2 n2 c2 x u)
                    rw [show cpuT n2 x = false by rw [← hlen]; exact hca] at HCu
                    go_wp2_with fail
                    refine (HCu.out _).mono ?_
                    rintro e w4 ⟨rfl, h2⟩
                    replace F7 := F7.below h2 F7.lt
                    replace F8 := F8.below h2 F8.lt
                    replace K := K.below h2 K.lt
                    replace hA1 := hA1.below h2
                    replace hA2 := hA2.below h2
                    replace B := B.trans (h2.mono B.size)
                    clear h2 p7 p8 q0 q1
                    have p7 := F7.cell 0
                    have p8 := F8.cell 0
                    have q0 := K.cell 0
                    have q1 := K.cell 1
                    have HSa := Lib.hid (same_none A3 c3 w4)
                    go_wp2_with fail
                    refine (HSa.out).mono ?_
                    rintro e w' ⟨rfl, q, rfl⟩
                    have B9 := below_drewN B q
                    replace F7 := F7.drewN q
                    replace F8 := F8.drewN q
                    replace K := K.drewN q
                    replace hA1 := hA1.below (below_drewN (Below.refl _ _) q)
                    replace hA2 := hA2.below (below_drewN (Below.refl _ _) q)
                    clear p7 p8 q0 q1
                    go_wp2
                    go_roundw
                    case rel => exact ⟨i + 1, HI.out.1, HI.out.2, by go_num, F7, F8, K, hA1, hA2, B9⟩
                    case measure => have := HI.out.1; simp [intOf]; omega
                · obtain rfl : m' = i := by omega
                  clear hi6
                  go_wp2
                  go_roundw
                  case rel => exact ⟨j + 1, HJ.out.1, HJ.out.2, by go_num, F7, F8, hA1, hA2, B⟩
                  case measure => have := HJ.out.1; simp [intOf]; omega
            | true =>
              obtain ⟨a, hxa, han⟩ := cpuT_true hca
              have HXA := Lib.hid hxa
              clear hxa
              cases hcb : cpuT L.length y with
              | false =>
                have hd := fun u h => HDi A1 n1 c1 L x y u h
                rw [show distR L x y = (0, 2) from by unfold distR; rw [if_pos hr, hca, hcb]; rfl] at hd
                have HD := Lib.hid (hd _ hA1)
                clear hd
                have p7 := F7.cell 0
                have p8 := F8.cell 0
                have q0 := K.cell 0
                have q1 := K.cell 1
                go_wp2_with fail
                refine (HD.out).mono ?_
                rintro e w3 ⟨rfl, h2⟩
                replace F7 := F7.below h2 F7.lt
                replace F8 := F8.below h2 F8.lt
                replace K := K.below h2 K.lt
                replace hA1 := hA1.below h2
                replace hA2 := hA2.below h2
                replace B := B.trans (h2.mono B.size)
                clear h2 p7 p8 q0 q1
                have p7 := F7.cell 0
                have p8 := F8.cell 0
                have q0 := K.cell 0
                have q1 := K.cell 1
                have HCx := Lib.hid (fun u => rcpuT_any A2 n2 c2 x u)
                rw [show cpuT n2 x = true by rw [← hlen]; exact hca] at HCx
                have HCy := Lib.hid (fun u => rcpuT_any A2 n2 c2 y u)
                rw [show cpuT n2 y = false by rw [← hlen]; exact hcb] at HCy
                go_wp2_with fail
                refine (HCx.out _).mono ?_
                rintro e w4 ⟨rfl, h2⟩
                replace F7 := F7.below h2 F7.lt
                replace F8 := F8.below h2 F8.lt
                replace K := K.below h2 K.lt
                replace hA1 := hA1.below h2
                replace hA2 := hA2.below h2
                replace B := B.trans (h2.mono B.size)
                clear h2 p7 p8 q0 q1
                have p7 := F7.cell 0
                have p8 := F8.cell 0
                have q0 := K.cell 0
                have q1 := K.cell 1
                go_wp2_with fail
                refine (HCy.out _).mono ?_
                rintro e w5 ⟨rfl, h2⟩
                replace F7 := F7.below h2 F7.lt
                replace F8 := F8.below h2 F8.lt
                replace K := K.below h2 K.lt
                replace hA1 := hA1.below h2
                replace hA2 := hA2.below h2
                replace B := B.trans (h2.mono B.size)
                clear h2 p7 p8 q0 q1
                have p7 := F7.cell 0
                have p8 := F8.cell 0
                have q0 := K.cell 0
                have q1 := K.cell 1
                go_wp2_with fail
                go_loopw [80] (fun iv wr => ∃ i : Nat, i ≤ m' ∧ i ≤ 6 ∧ iv = .int .i64 (i : Int) ∧ Blk wr g7 27 #[.slice A1 n1 c1] ∧ Blk wr g8 27 #[.slice A2 n2 c2] ∧ Blk wr g11 43 #[.int .i64 x, .int .i64 y] ∧ At wr A1 n1 c1 L ∧ At wr A2 n2 c2 L ∧ Below w.heap.size w wr) (fun iv _ => m' - (intOf iv).toNat)
                case atStart => exact ⟨0, by omega, by omega, rfl, F7, F8, K, hA1, hA2, B⟩
                case round =>
                  clear F7 F8 K hA1 hA2 B
                  obtain ⟨i, hi, hi6, rfl, F7, F8, K, hA1, hA2, B⟩ := hrel
                  by_cases him : i < m'
                  · obtain ⟨ad3, v3, rfl, _, hx3, hc3⟩ := (HS'.out.below B).at_ him
                    obtain ⟨s, hs3, rfl⟩ := us_at hx3
                    obtain ⟨s0, s1⟩ := HU.out i s hs3
                    have k2 : (0 : Int) ≤ (i : Int) := by omega
                    have k3 : (i : Int) < (m' : Int) := by omega
                    clear hx3 hs3
                    by_cases h6 : i = 6
                    · have e6 : ((i : Int) == 6) = true := by simp; omega
                      clear h6 hi6 s0 s1
                      go_wp2
                      go_roundw
                      case rel => exact ⟨j + 1, HJ.out.1, HJ.out.2, by go_num, F7, F8, hA1, hA2, B⟩
                      case measure => have := HJ.out.1; simp [intOf]; omega
                    · have e6 : ((i : Int) == 6) = false := by simp; omega
                      have HI := Lib.hid (show i + 1 ≤ m' ∧ i + 1 ≤ 6 by omega)
                      clear h6 hi6
                      by_cases hs : s < 256
                      · skip
                        have hne := HNe A1 n1 c1 L x s wr hA1 s0 s1
                        rw [show nearR L x s = (nearL L s a, 0) from by unfold nearR; rw [if_pos hr, hca, if_pos rfl, if_pos hs, HXA.out]; rfl] at hne
                        have HNx := Lib.hid hne
                        clear hne
                        have p7 := F7.cell 0
                        have p8 := F8.cell 0
                        have q0 := K.cell 0
                        have q1 := K.cell 1
                        go_wp2_with fail
                        refine HNx.out.mono ?_
                        rintro e w3 ⟨A3, n3, c3, rfl, hn3, hc3, hr3, h2⟩
                        have HN3 := Lib.hid hn3
                        clear hn3
                        replace F7 := F7.below h2 F7.lt
                        replace F8 := F8.below h2 F8.lt
                        replace K := K.below h2 K.lt
                        replace hr3 := hr3
                        replace hA1 := hA1.below h2
                        replace hA2 := hA2.below h2
                        replace B := B.trans (h2.mono B.size)
                        clear h2 hc3 HNx p7 p8 q0 q1
                        have p7 := F7.cell 0
                        have p8 := F8.cell 0
                        have q0 := K.cell 0
                        have q1 := K.cell 1
                        have hr4 := hr3
                        have HCu := Lib.hid (fun u => rcpuT_any A2 n2 c2 x u)
                        rw [show cpuT n2 x = true by rw [← hlen]; exact hca] at HCu
                        go_wp2_with fail
                        refine (HCu.out _).mono ?_
                        rintro e w4 ⟨rfl, h2⟩
                        replace hr4 := (hr4.below h2).more h2.size
                        replace F7 := F7.below h2 F7.lt
                        replace F8 := F8.below h2 F8.lt
                        replace K := K.below h2 K.lt
                        replace hA1 := hA1.below h2
                        replace hA2 := hA2.below h2
                        replace B := B.trans (h2.mono B.size)
                        clear h2 hr3 p7 p8 q0 q1
                        have p7 := F7.cell 0
                        have p8 := F8.cell 0
                        have q0 := K.cell 0
                        have q1 := K.cell 1
                        have HRs := Lib.hid (fun u => rright_any s u)
                        rw [decide_eq_true (show s < 256 by omega)] at HRs
                        go_wp2_with fail
                        refine (HRs.out _).mono ?_
                        rintro e w' ⟨rfl, rfl⟩
                        have hnr := rnear_any A2 n2 c2 L a s w4 hA2.1 (by omega) (by omega) s0
                        rw [← HXA.out] at hnr
                        have HNr := Lib.hid hnr
                        clear hnr
                        go_wp2_with fail
                        refine HNr.out.mono ?_
                        rintro e w5 ⟨A5, n5, c5, rfl, hn5, hr5, h2⟩
                        obtain rfl : n3 = n5 := HN3.out.trans hn5.symm
                        replace hr4 := (hr4.below h2).more h2.size
                        replace F7 := F7.below h2 F7.lt
                        replace F8 := F8.below h2 F8.lt
                        replace K := K.below h2 K.lt
                        replace hA1 := hA1.below h2
                        replace hA2 := hA2.below h2
                        replace B := B.trans (h2.mono B.size)
                        have HSa := Lib.hid (same_same A3 A5 n3 c3 c5 (nearL L s a) w5 hr4 hr5 (by rw [HN3.out]; exact near_small (by omega)))
                        clear h2 hr4 hr5 hn5 p7 p8 q0 q1
                        go_wp2_with fail
                        refine (HSa.out).mono ?_
                        rintro e w' ⟨rfl, q, rfl⟩
                        have B9 := below_drewN B q
                        replace F7 := F7.drewN q
                        replace F8 := F8.drewN q
                        replace K := K.drewN q
                        replace hA1 := hA1.below (below_drewN (Below.refl _ _) q)
                        replace hA2 := hA2.below (below_drewN (Below.refl _ _) q)
                        go_wp2
                        go_roundw
                        case rel => exact ⟨i + 1, HI.out.1, HI.out.2, by go_num, F7, F8, K, hA1, hA2, B9⟩
                        case measure => have := HI.out.1; simp [intOf]; omega
                      · skip
                        have hne := HNe A1 n1 c1 L x s wr hA1 s0 s1
                        rw [show nearR L x s = ([], 140) from by unfold nearR; rw [if_pos hr, hca, if_pos rfl, if_neg hs]] at hne
                        have HNx := Lib.hid hne
                        clear hne
                        have p7 := F7.cell 0
                        have p8 := F8.cell 0
                        have q0 := K.cell 0
                        have q1 := K.cell 1
                        go_wp2_with fail
                        refine HNx.out.mono ?_
                        rintro e w3 ⟨A3, n3, c3, rfl, hn3, hc3, hr3, h2⟩
                        obtain rfl : n3 = 0 := hn3
                        clear hr3
                        replace F7 := F7.below h2 F7.lt
                        replace F8 := F8.below h2 F8.lt
                        replace K := K.below h2 K.lt
                        replace hA1 := hA1.below h2
                        replace hA2 := hA2.below h2
                        replace B := B.trans (h2.mono B.size)
                        clear h2 hc3 HNx p7 p8 q0 q1
                        have p7 := F7.cell 0
                        have p8 := F8.cell 0
                        have q0 := K.cell 0
                        have q1 := K.cell 1
                        have HCu := Lib.hid (fun u => rcpuT_any A2 n2 c2 x u)
                        rw [show cpuT n2 x = true by rw [← hlen]; exact hca] at HCu
                        go_wp2_with fail
                        refine (HCu.out _).mono ?_
                        rintro e w4 ⟨rfl, h2⟩
                        replace F7 := F7.below h2 F7.lt
                        replace F8 := F8.below h2 F8.lt
                        replace K := K.below h2 K.lt
                        replace hA1 := hA1.below h2
                        replace hA2 := hA2.below h2
                        replace B := B.trans (h2.mono B.size)
                        clear h2 p7 p8 q0 q1
                        have p7 := F7.cell 0
                        have p8 := F8.cell 0
                        have q0 := K.cell 0
                        have q1 := K.cell 1
                        have HRs := Lib.hid (fun u => rright_any s u)
                        rw [decide_eq_false (show ¬ s < 256 by omega)] at HRs
                        go_wp2_with fail
                        refine (HRs.out _).mono ?_
                        rintro e w' ⟨rfl, rfl⟩
                        have HSa := Lib.hid (same_none A3 c3 w4)
                        go_wp2_with fail
                        refine (HSa.out).mono ?_
                        rintro e w' ⟨rfl, q, rfl⟩
                        have B9 := below_drewN B q
                        replace F7 := F7.drewN q
                        replace F8 := F8.drewN q
                        replace K := K.drewN q
                        replace hA1 := hA1.below (below_drewN (Below.refl _ _) q)
                        replace hA2 := hA2.below (below_drewN (Below.refl _ _) q)
                        clear p7 p8 q0 q1
                        go_wp2
                        go_roundw
                        case rel => exact ⟨i + 1, HI.out.1, HI.out.2, by go_num, F7, F8, K, hA1, hA2, B9⟩
                        case measure => have := HI.out.1; simp [intOf]; omega
                  · obtain rfl : m' = i := by omega
                    clear hi6
                    go_wp2
                    go_roundw
                    case rel => exact ⟨j + 1, HJ.out.1, HJ.out.2, by go_num, F7, F8, hA1, hA2, B⟩
                    case measure => have := HJ.out.1; simp [intOf]; omega
              | true =>
                obtain ⟨b, hyb, hbn⟩ := cpuT_true hcb
                have HYB := Lib.hid hyb
                clear hyb
                have hd := fun u h => HDi A1 n1 c1 L x y u h
                rw [show distR L x y = (distN L a b, 0) from by unfold distR; rw [if_pos hr, hca, hcb, HXA.out, HYB.out]; rfl] at hd
                have HD := Lib.hid (hd _ hA1)
                clear hd
                have p7 := F7.cell 0
                have p8 := F8.cell 0
                have q0 := K.cell 0
                have q1 := K.cell 1
                go_wp2_with fail
                refine (HD.out).mono ?_
                rintro e w3 ⟨rfl, h2⟩
                replace F7 := F7.below h2 F7.lt
                replace F8 := F8.below h2 F8.lt
                replace K := K.below h2 K.lt
                replace hA1 := hA1.below h2
                replace hA2 := hA2.below h2
                replace B := B.trans (h2.mono B.size)
                clear h2 p7 p8 q0 q1
                have p7 := F7.cell 0
                have p8 := F8.cell 0
                have q0 := K.cell 0
                have q1 := K.cell 1
                have HCx := Lib.hid (fun u => rcpuT_any A2 n2 c2 x u)
                rw [show cpuT n2 x = true by rw [← hlen]; exact hca] at HCx
                have HCy := Lib.hid (fun u => rcpuT_any A2 n2 c2 y u)
                rw [show cpuT n2 y = true by rw [← hlen]; exact hcb] at HCy
                go_wp2_with fail
                refine (HCx.out _).mono ?_
                rintro e w4 ⟨rfl, h2⟩
                replace F7 := F7.below h2 F7.lt
                replace F8 := F8.below h2 F8.lt
                replace K := K.below h2 K.lt
                replace hA1 := hA1.below h2
                replace hA2 := hA2.below h2
                replace B := B.trans (h2.mono B.size)
                clear h2 p7 p8 q0 q1
                have p7 := F7.cell 0
                have p8 := F8.cell 0
                have q0 := K.cell 0
                have q1 := K.cell 1
                go_wp2_with fail
                refine (HCy.out _).mono ?_
                rintro e w5 ⟨rfl, h2⟩
                replace F7 := F7.below h2 F7.lt
                replace F8 := F8.below h2 F8.lt
                replace K := K.below h2 K.lt
                replace hA1 := hA1.below h2
                replace hA2 := hA2.below h2
                replace B := B.trans (h2.mono B.size)
                clear h2 p7 p8 q0 q1
                have p7 := F7.cell 0
                have p8 := F8.cell 0
                have q0 := K.cell 0
                have q1 := K.cell 1
                have hdd := rdist_any A2 n2 c2 L a b w5 hA2.1 (by omega) (by omega)
                rw [← HXA.out, ← HYB.out] at hdd
                have HDD := Lib.hid hdd
                clear hdd
                go_wp2_with fail
                refine (HDD.out).mono ?_
                rintro e w6 ⟨rfl, h2⟩
                replace F7 := F7.below h2 F7.lt
                replace F8 := F8.below h2 F8.lt
                replace K := K.below h2 K.lt
                replace hA1 := hA1.below h2
                replace hA2 := hA2.below h2
                replace B := B.trans (h2.mono B.size)
                clear h2 p7 p8 q0 q1
                have p7 := F7.cell 0
                have p8 := F8.cell 0
                have q0 := K.cell 0
                have q1 := K.cell 1
                go_wp2_with fail
                go_loopw [80] (fun iv wr => ∃ i : Nat, i ≤ m' ∧ i ≤ 6 ∧ iv = .int .i64 (i : Int) ∧ Blk wr g7 27 #[.slice A1 n1 c1] ∧ Blk wr g8 27 #[.slice A2 n2 c2] ∧ Blk wr g11 43 #[.int .i64 x, .int .i64 y] ∧ At wr A1 n1 c1 L ∧ At wr A2 n2 c2 L ∧ Below w.heap.size w wr) (fun iv _ => m' - (intOf iv).toNat)
                case atStart => exact ⟨0, by omega, by omega, rfl, F7, F8, K, hA1, hA2, B⟩
                case round =>
                  clear F7 F8 K hA1 hA2 B
                  obtain ⟨i, hi, hi6, rfl, F7, F8, K, hA1, hA2, B⟩ := hrel
                  by_cases him : i < m'
                  · obtain ⟨ad3, v3, rfl, _, hx3, hc3⟩ := (HS'.out.below B).at_ him
                    obtain ⟨s, hs3, rfl⟩ := us_at hx3
                    obtain ⟨s0, s1⟩ := HU.out i s hs3
                    have k2 : (0 : Int) ≤ (i : Int) := by omega
                    have k3 : (i : Int) < (m' : Int) := by omega
                    clear hx3 hs3
                    by_cases h6 : i = 6
                    · have e6 : ((i : Int) == 6) = true := by simp; omega
                      clear h6 hi6 s0 s1
                      go_wp2
                      go_roundw
                      case rel => exact ⟨j + 1, HJ.out.1, HJ.out.2, by go_num, F7, F8, hA1, hA2, B⟩
                      case measure => have := HJ.out.1; simp [intOf]; omega
                    · have e6 : ((i : Int) == 6) = false := by simp; omega
                      have HI := Lib.hid (show i + 1 ≤ m' ∧ i + 1 ≤ 6 by omega)
                      clear h6 hi6
                      by_cases hs : s < 256
                      · skip
                        have hne := HNe A1 n1 c1 L x s wr hA1 s0 s1
                        rw [show nearR L x s = (nearL L s a, 0) from by unfold nearR; rw [if_pos hr, hca, if_pos rfl, if_pos hs, HXA.out]; rfl] at hne
                        have HNx := Lib.hid hne
                        clear hne
                        have p7 := F7.cell 0
                        have p8 := F8.cell 0
                        have q0 := K.cell 0
                        have q1 := K.cell 1
                        go_wp2_with fail
                        refine HNx.out.mono ?_
                        rintro e w3 ⟨A3, n3, c3, rfl, hn3, hc3, hr3, h2⟩
                        have HN3 := Lib.hid hn3
                        clear hn3
                        replace F7 := F7.below h2 F7.lt
                        replace F8 := F8.below h2 F8.lt
                        replace K := K.below h2 K.lt
                        replace hr3 := hr3
                        replace hA1 := hA1.below h2
                        replace hA2 := hA2.below h2
                        replace B := B.trans (h2.mono B.size)
                        clear h2 hc3 HNx p7 p8 q0 q1
                        have p7 := F7.cell 0
                        have p8 := F8.cell 0
                        have q0 := K.cell 0
                        have q1 := K.cell 1
                        have hr4 := hr3
                        have HCu := Lib.hid (fun u => rcpuT_any A2 n2 c2 x u)
                        rw [show cpuT n2 x = true by rw [← hlen]; exact hca] at HCu
                        go_wp2_with fail
                        refine (HCu.out _).mono ?_
                        rintro e w4 ⟨rfl, h2⟩
                        replace hr4 := (hr4.below h2).more h2.size
                        replace F7 := F7.below h2 F7.lt
                        replace F8 := F8.below h2 F8.lt
                        replace K := K.below h2 K.lt
                        replace hA1 := hA1.below h2
                        replace hA2 := hA2.below h2
                        replace B := B.trans (h2.mono B.size)
                        clear h2 hr3 p7 p8 q0 q1
                        have p7 := F7.cell 0
                        have p8 := F8.cell 0
                        have q0 := K.cell 0
                        have q1 := K.cell 1
                        have HRs := Lib.hid (fun u => rright_any s u)
                        rw [decide_eq_true (show s < 256 by omega)] at HRs
                        go_wp2_with fail
                        refine (HRs.out _).mono ?_
                        rintro e w' ⟨rfl, rfl⟩
                        have hnr := rnear_any A2 n2 c2 L a s w4 hA2.1 (by omega) (by omega) s0
                        rw [← HXA.out] at hnr
                        have HNr := Lib.hid hnr
                        clear hnr
                        go_wp2_with fail
                        refine HNr.out.mono ?_
                        rintro e w5 ⟨A5, n5, c5, rfl, hn5, hr5, h2⟩
                        obtain rfl : n3 = n5 := HN3.out.trans hn5.symm
                        replace hr4 := (hr4.below h2).more h2.size
                        replace F7 := F7.below h2 F7.lt
                        replace F8 := F8.below h2 F8.lt
                        replace K := K.below h2 K.lt
                        replace hA1 := hA1.below h2
                        replace hA2 := hA2.below h2
                        replace B := B.trans (h2.mono B.size)
                        have HSa := Lib.hid (same_same A3 A5 n3 c3 c5 (nearL L s a) w5 hr4 hr5 (by rw [HN3.out]; exact near_small (by omega)))
                        clear h2 hr4 hr5 hn5 p7 p8 q0 q1
                        go_wp2_with fail
                        refine (HSa.out).mono ?_
                        rintro e w' ⟨rfl, q, rfl⟩
                        have B9 := below_drewN B q
                        replace F7 := F7.drewN q
                        replace F8 := F8.drewN q
                        replace K := K.drewN q
                        replace hA1 := hA1.below (below_drewN (Below.refl _ _) q)
                        replace hA2 := hA2.below (below_drewN (Below.refl _ _) q)
                        go_wp2
                        go_roundw
                        case rel => exact ⟨i + 1, HI.out.1, HI.out.2, by go_num, F7, F8, K, hA1, hA2, B9⟩
                        case measure => have := HI.out.1; simp [intOf]; omega
                      · skip
                        have hne := HNe A1 n1 c1 L x s wr hA1 s0 s1
                        rw [show nearR L x s = ([], 140) from by unfold nearR; rw [if_pos hr, hca, if_pos rfl, if_neg hs]] at hne
                        have HNx := Lib.hid hne
                        clear hne
                        have p7 := F7.cell 0
                        have p8 := F8.cell 0
                        have q0 := K.cell 0
                        have q1 := K.cell 1
                        go_wp2_with fail
                        refine HNx.out.mono ?_
                        rintro e w3 ⟨A3, n3, c3, rfl, hn3, hc3, hr3, h2⟩
                        obtain rfl : n3 = 0 := hn3
                        clear hr3
                        replace F7 := F7.below h2 F7.lt
                        replace F8 := F8.below h2 F8.lt
                        replace K := K.below h2 K.lt
                        replace hA1 := hA1.below h2
                        replace hA2 := hA2.below h2
                        replace B := B.trans (h2.mono B.size)
                        clear h2 hc3 HNx p7 p8 q0 q1
                        have p7 := F7.cell 0
                        have p8 := F8.cell 0
                        have q0 := K.cell 0
                        have q1 := K.cell 1
                        have HCu := Lib.hid (fun u => rcpuT_any A2 n2 c2 x u)
                        rw [show cpuT n2 x = true by rw [← hlen]; exact hca] at HCu
                        go_wp2_with fail
                        refine (HCu.out _).mono ?_
                        rintro e w4 ⟨rfl, h2⟩
                        replace F7 := F7.below h2 F7.lt
                        replace F8 := F8.below h2 F8.lt
                        replace K := K.below h2 K.lt
                        replace hA1 := hA1.below h2
                        replace hA2 := hA2.below h2
                        replace B := B.trans (h2.mono B.size)
                        clear h2 p7 p8 q0 q1
                        have p7 := F7.cell 0
                        have p8 := F8.cell 0
                        have q0 := K.cell 0
                        have q1 := K.cell 1
                        have HRs := Lib.hid (fun u => rright_any s u)
                        rw [decide_eq_false (show ¬ s < 256 by omega)] at HRs
                        go_wp2_with fail
                        refine (HRs.out _).mono ?_
                        rintro e w' ⟨rfl, rfl⟩
                        have HSa := Lib.hid (same_none A3 c3 w4)
                        go_wp2_with fail
                        refine (HSa.out).mono ?_
                        rintro e w' ⟨rfl, q, rfl⟩
                        have B9 := below_drewN B q
                        replace F7 := F7.drewN q
                        replace F8 := F8.drewN q
                        replace K := K.drewN q
                        replace hA1 := hA1.below (below_drewN (Below.refl _ _) q)
                        replace hA2 := hA2.below (below_drewN (Below.refl _ _) q)
                        clear p7 p8 q0 q1
                        go_wp2
                        go_roundw
                        case rel => exact ⟨i + 1, HI.out.1, HI.out.2, by go_num, F7, F8, K, hA1, hA2, B9⟩
                        case measure => have := HI.out.1; simp [intOf]; omega
                  · obtain rfl : m' = i := by omega
                    clear hi6
                    go_wp2
                    go_roundw
                    case rel => exact ⟨j + 1, HJ.out.1, HJ.out.2, by go_num, F7, F8, hA1, hA2, B⟩
                    case measure => have := HJ.out.1; simp [intOf]; omega
      · obtain rfl : n' = j := by omega
        have p7 := F7.cell 0
        have p8 := F8.cell 0
        have HSm := Lib.hid (rsame_any A1 A2 n1 c1 n2 c2 L L _ hA1.1 hA2.1 (by have := hA1.2.2; unfold maxLen; omega))
        rw [show sameB L L = true from decide_eq_true rfl] at HSm
        clear hj12 F7 F8 hA1 hA2
        go_wp2_with fail
        refine HSm.out.mono ?_
        rintro e w9 ⟨rfl, h9'⟩
        go_wp2
        go_ret
        exact ⟨rfl, B.trans (h9'.mono B.size)⟩

end Go.Proofs.Ytfalkiinlkfanaa
