/-
  PoolDoes' walk, on what is asked of the landed calls.
-/
import Derived.Test.YtnckfgnhlnichaaWa
import Derived.Deep.RegionHeld3
import Derived.Deep.DeepCutAuto
import Derived.Deep.CutBlock
namespace Go.Proofs.Ytnckfgnhlnichaa
open Go.RowKit

theorem join_none {l l' : List Nat} {p i e : Int} (h : joinV l p i = (l', e)) (he : e ≠ 0) : l' = [] := by
  unfold joinV at h
  (repeat' split at h) <;> simp only [Prod.mk.injEq] at h <;> first | exact h.1.symm | exact absurd h.2.symm he
theorem runR_short {L R : List Nat} {k a b cpu N E : Int} {s : Nat} (h : runR L k a b cpu s = (R, N, E)) : R.length ≤ 8 ∧ (E = 0 → rightP R = true) := by
  cases hr : rightP L with
  | false =>
    rw [run_no hr] at h
    simp only [Prod.mk.injEq] at h
    obtain ⟨rfl, -, rfl⟩ := h
    exact ⟨by simp, fun h => by cases h⟩
  | true =>
    by_cases hE : E = 0
    · subst hE
      have := (runR_ok hr h).1
      exact ⟨by have := right_parts8 this; omega, fun _ => this⟩
    · refine ⟨?_, fun h => absurd h hE⟩
      have : R = [] := by
        unfold runR at h
        split at h
        · exact split_none (by rwa [splitR, if_pos hr] at h) hE
        · split at h
          · simp only [Prod.mk.injEq] at h
            rw [joinR, if_pos hr] at h
            exact join_none (l' := R) (e := E) (by rw [← h.1, ← h.2.2]) hE
          · exact move_none (by rwa [moveR, if_pos hr] at h) hE
      rw [this]; simp
theorem own_fresh {w : World} {base n size : Nat} {e : TypeId} {v : Value} {xs : List Value} (h : w.ownsRow base e size v n xs) (o : Obj) (u : Value) : ((w.alloc o).setCell ⟨w.heap.size, 0, none⟩ u).ownsRow base e size v n xs := by
  have h1 := own_below h ((Below.refl _ w).alloc (Nat.le_refl _) o)
  refine h1.kept (row := some w.heap.size) ⟨rfl, rfl, rfl, by simp [World.setCell], fun k _ hne => Below.heap_setCell _ _ u k (fun he => hne (by rw [he]))⟩ ?_
  cases ho : v.ownBlock with
  | none => exact .inl rfl
  | some k =>
    refine .inr (fun he => ?_)
    have := (h.lt k ho).2
    injection he with he
    omega
theorem own_off {w : World} {base n size g : Nat} {e : TypeId} {v : Value} {xs : List Value} (h : w.ownsRow base e size v n xs) (hne : ∀ k, v.ownBlock = some k → k ≠ g) (u : Value) : (w.setCell ⟨g, 0, none⟩ u).ownsRow base e size v n xs := by
  refine h.kept (row := some g) ⟨rfl, rfl, rfl, by simp [World.setCell], fun k _ hk => Below.heap_setCell _ _ u k (fun he => hk (by rw [he]))⟩ ?_
  cases ho : v.ownBlock with
  | none => exact .inl rfl
  | some k => exact .inr (fun he => hne k ho (Option.some.inj he))
/-- q's box and row, the copy's box and row, while q is written over -/
structure QW (W V : World) (A : Option Addr) (n c : Nat) (l : List Nat) (g9 g12 b9 : Nat) (A9 : Option Addr) (n9 c9 : Nat) (R : List Nat) : Prop where
  below : Below W.heap.size W V
  box : Blk V g9 24 #[.slice A n c]
  box2 : Blk V g12 24 #[.slice A9 n9 c9]
  own : V.ownsRow W.heap.size 29 1 (.slice A n c) n (us l)
  own2 : V.ownsRow b9 29 1 (.slice A9 n9 c9) n9 (us R)
  lt : ∀ ad, A = some ad → ad.block < g9
  le : g9 < g12 ∧ g12 < b9
theorem QW.at_ {W V : World} {A : Option Addr} {n c : Nat} {l : List Nat} {g9 g12 b9 : Nat} {A9 : Option Addr} {n9 c9 : Nat} {R : List Nat} (h : QW W V A n c l g9 g12 b9 A9 n9 c9 R) {j : Nat} (hj : j < n) :
    ∃ ad x, A = some ad ∧ n ≤ c ∧ V.cell? (ad.add j) = some (.int .u32 (x : Int)) ∧ V.frozen? (ad.add j) = false ∧ (∀ y : Nat, QW W (V.setCell (ad.add j) (.int .u32 (y : Int))) A n c (l.set j y) g9 g12 b9 A9 n9 c9 R) := by
  obtain ⟨g, cap, hA, hg0, _⟩ := h.own.form (by omega)
  have hA := Value.slice.inj hA
  obtain ⟨rfl, -, rfl⟩ := hA
  have hl : l.length = n := by have := h.own.1; rw [length_us] at this; omega
  obtain ⟨x, hx⟩ := elem_at (l := l) (k := j) (by omega)
  obtain ⟨A2, c2, e2, hc, _⟩ := own_reads h.own
  injection e2 with e3 e4 e5
  have hlt := h.lt _ rfl
  have hle := h.le
  refine ⟨_, x, rfl, by omega, ?_, ?_, fun y => ?_⟩
  · rw [add_zero_block, h.own.cellAt j (by omega)]
    unfold us
    rw [List.getElem?_map, hx]
    rfl
  · rw [add_zero_block]
    exact h.own.frozenAt j
  · have hs := h.own.stored j (.int .u32 (y : Int))
    rw [us_set] at hs
    rw [add_zero_block]
    simp only at hlt
    exact ⟨h.below.grown hs.2 h.below.size (fun g' hg' => by have := Option.some.inj hg'; omega), h.box.grown hs.2 (by simp; omega), h.box2.grown hs.2 (by simp; omega), hs.1, own_set h.own2 (by omega) _ _, h.lt, hle⟩

set_option maxRecDepth 100000 in
set_option maxHeartbeats 16000000 in
theorem does_walk {G : World → Prop} (hG : Steady G) (hSp : PSplitOk G) (hJo : PJoinOk G) (hMo : PMoveOk G)
    (hk : ∀ u, G u → Calls Try.prog 9 #[] u (Said (.bool true) u))
    (Ax : Option Addr) (nx cx : Nat) (X : List Nat) (A : Option Addr) (n c : Nat) (l : List OpT) (w : World) (hg : G w) (hX : Reads w w.heap.size 1 Ax nx (us X)) (hnc : nx ≤ cx) (hU : U32s X)
    (hR : Reads w w.heap.size 5 A n (flat opv l)) (hs : ∀ (j : Nat) (o : OpT), l[j]? = some o → o.2.2.2.2 < 4294967296) :
    Calls Try.prog 3 #[.agg #[.slice Ax nx cx], .slice A n c] w (Said (.bool true) w) := by
  have HGs := Lib.hid (fun (u : World) (h : Below w.heap.size w u) => hG w u hg h)
  have HK := Lib.hid hk
  have HR := Lib.hid hR
  have HL : Hid (l.length = n) := Lib.hid (by have := hR.1; rw [length_flat opv length_opv] at this; omega)
  have HS := Lib.hid hs
  have HSx := Lib.hid (fun (u : World) (h : Below w.heap.size w u) => shortP_any Ax nx cx X u ((hX.below h).more h.size) hnc)
  have HSh := Lib.hid (fun (A : Option Addr) (n c : Nat) (L : List Nat) (u : World) (h : PAt G u A n c L) (hl : L.length ≤ 12) => by
    have := shortP_any A n c L u h.1 h.2.1
    rwa [List.take_of_length_le hl] at this)
  have HRu := Lib.hid (fun (A : Option Addr) (n c : Nat) (L : List Nat) (k a b cpu : Int) (s : Nat) (u : World) (h : PAt G u A n c L) (hs : s < 4294967296) => run_any hG hSp hJo hMo A n c L k a b cpu s u h hs)
  have HWa := Lib.hid (fun (A : Option Addr) (n c : Nat) (L : List Nat) (k a b cpu : Int) (s : Nat) (u : World) (h : PAt G u A n c L) (hs : s < 4294967296) => wants_any hG A n c L k a b cpu s u h hs)
  have HSa := Lib.hid (fun (A A' : Option Addr) (n c n' c' : Nat) (L : List Nat) (u : World) (h : Reads u u.heap.size 1 A n (us L)) (h' : Reads u u.heap.size 1 A' n' (us L)) (hn : n ≤ 1000) => by
    have := rsameP_any A A' n c n' c' L L u h h' hn
    rwa [sameP_self] at this)
  have HCy := Lib.hid (fun (A : Option Addr) (n c : Nat) (L : List Nat) (u : World) (h : Reads u u.heap.size 1 A n (us L)) (hn : n ≤ 1000) => rcopyP_any A n c L u h hn)
  have HG := Lib.hid hG
  have HUx := Lib.hid (u32s_take hU 12)
  obtain ⟨L0, hL0⟩ : ∃ L0, X.take 12 = L0 := ⟨_, rfl⟩
  have HT0 : Hid (L0.length ≤ 12) := Lib.hid (by rw [← hL0]; exact List.length_take_le _ _)
  rw [hL0] at HSx HUx
  have K0 := Blk.new w 24 #[.slice Ax nx cx]
  have B0 := (Below.refl _ w).alloc (Nat.le_refl _) (.cells #[.slice Ax nx cx] 24)
  clear hG hSp hJo hMo hk hg hX hR hs hL0
  go_enter Try.func3, Try.ntmps3
  go_wp2_with fail
  refine (HK.out _ (HGs.out _ B0)).mono ?_
  rintro e w1 ⟨rfl, h9⟩
  have K01 := K0.below h9 K0.lt
  have B1 := B0.trans (h9.mono B0.size)
  have k0 := K01.cell 0
  clear h9 K0 B0
  go_wp2_with fail
  refine (HSx.out _ B1).mono ?_
  rintro e w2 ⟨A5, c5, rfl, own5, h9⟩
  obtain ⟨n5, hn5⟩ : ∃ n5, L0.length = n5 := ⟨_, rfl⟩
  rw [hn5] at own5 ⊢
  have B2 := B1.trans (h9.mono B1.size)
  have At2 := Lib.hid ((PAt.own own5 (by have := HT0.out; omega) HUx.out (HGs.out _ B2)).below HG.out ((Below.refl _ w2).alloc (Nat.le_refl _) (.cells #[.slice A5 n5 c5] 24)))
  have K2 := Blk.new w2 24 #[.slice A5 n5 c5]
  have B3 := B2.alloc B2.size (.cells #[.slice A5 n5 c5] 24)
  have HG5 := Lib.hid B2.size
  clear own5 h9 B1 B2 K01 k0 hn5
  go_wp2_with fail
  go_loopw [22] (fun i wr => ∃ (j : Nat) (L : List Nat) (A5 : Option Addr) (n5 c5 : Nat), j ≤ n ∧ j ≤ 30 ∧ i = .int .i64 (j : Int) ∧ Hid (L.length ≤ 12) ∧ Hid (PAt G wr A5 n5 c5 L) ∧ Blk wr w2.heap.size 24 #[.slice A5 n5 c5] ∧ Below w.heap.size w wr) (fun i _ => n - (intOf i).toNat)
  case atStart => exact ⟨0, _, _, _, _, by omega, by omega, rfl, HT0, At2, K2, B3⟩
  case round =>
    clear K2 B3 At2 HT0 HSx HUx
    obtain ⟨j, L, A5, n5, c5, hj, h30, rfl, HT, At, K5, Br⟩ := hrel
    by_cases hlt : j < n
    · obtain ⟨⟨k, a, b, cpu, s⟩, ho⟩ := elem_at (l := l) (k := j) (by rw [HL.out]; exact hlt)
      obtain ⟨ad, rfl, hb, c0, c1, c2, c3, c4⟩ := op_at (HR.out.below Br) ho
      have hss := HS.out j _ ho
      have Ba := Br.alloc Br.size (.cells #[.int .i64 k, .int .i64 a, .int .i64 b, .int .i64 cpu, .int .u32 (s : Int)] 31)
      by_cases hj30 : j = 30
      · have q : ((j : Int) == 30) = true := by simp; omega
        have BH := Lib.hid Ba
        clear hj30 h30 Br Ba hss
        go_wp2
        go_ret
        exact ⟨rfl, BH.out⟩
      · have q : ((j : Int) == 30) = false := by simp; omega
        have HJ : Hid (j + 1 ≤ n ∧ j + 1 ≤ 30) := Lib.hid (by omega)
        have j9 : j < 100 := by omega
        have HSS := Lib.hid hss
        have Ata := Lib.hid (At.out.below HG.out ((Below.refl _ wr).alloc (Nat.le_refl _) (.cells #[.int .i64 k, .int .i64 a, .int .i64 b, .int .i64 cpu, .int .u32 (s : Int)] 31)))
        have K5a := K5.alloc (.cells #[.int .i64 k, .int .i64 a, .int .i64 b, .int .i64 cpu, .int .u32 (s : Int)] 31)
        have K7a := Blk.new wr 31 #[.int .i64 k, .int .i64 a, .int .i64 b, .int .i64 cpu, .int .u32 (s : Int)]
        obtain ⟨R, N1, E1, hrr⟩ : ∃ R N1 E1, runR L k a b cpu s = (R, N1, E1) := ⟨_, _, _, rfl⟩
        have HRs := Lib.hid (runR_short hrr)
        have HRun : Hid (∀ (A : Option Addr) (n c : Nat) (u : World), PAt G u A n c L → Calls Try.prog 11 #[.agg #[.int .i64 k, .int .i64 a, .int .i64 b, .int .i64 cpu, .int .u32 (s : Int)], .agg #[.slice A n c]] u (GivesP3 (R, N1, E1) u)) :=
          Lib.hid (fun A n c u h => hrr ▸ HRu.out A n c L k a b cpu s u h hss)
        have HWan : Hid (∀ (A : Option Addr) (n c : Nat) (u : World), PAt G u A n c L → Calls Try.prog 12 #[.agg #[.int .i64 k, .int .i64 a, .int .i64 b, .int .i64 cpu, .int .u32 (s : Int)], .agg #[.slice A n c]] u (GivesP3 (R, N1, E1) u)) :=
          Lib.hid (fun A n c u h => hrr ▸ HWa.out A n c L k a b cpu s u h hss)
        have HN5 := Lib.hid Ata.out.len
        have k5 := K5a.cell 0
        clear hj30 h30 Br At K5 hss hrr ho HRu HWa
        go_wp2_with fail
        refine (HSh.out _ _ _ _ _ Ata.out HT.out).mono ?_
        rintro e w3 ⟨A8, c8, rfl, own8, h9⟩
        rw [HN5.out] at own8 ⊢
        have B3 := Ba.trans (h9.mono Ba.size)
        have At3 := Ata.out.below HG.out h9
        have AtW3 := PAt.own own8 At3.2.2.1 At3.2.2.2.1 At3.2.2.2.2
        have l5 := (K5a.below h9 K5a.lt).lt
        have l7 := (K7a.below h9 K7a.lt).lt
        have K5b := (K5a.below h9 K5a.lt).alloc (.cells #[.slice A8 n5 c8] 24)
        have K7b := (K7a.below h9 K7a.lt).alloc (.cells #[.slice A8 n5 c8] 24)
        have K8b := Blk.new w3 24 #[.slice A8 n5 c8]
        have AtP := Lib.hid (At3.below HG.out ((Below.refl _ w3).alloc (Nat.le_refl _) (.cells #[.slice A8 n5 c8] 24)))
        have AtW := Lib.hid (AtW3.below HG.out ((Below.refl _ w3).alloc (Nat.le_refl _) (.cells #[.slice A8 n5 c8] 24)))
        have Bb := B3.alloc B3.size (.cells #[.slice A8 n5 c8] 24)
        have k5b := K5b.cell 0
        have k70 := K7b.cell 0
        have k71 := K7b.cell 1
        have k72 := K7b.cell 2
        have k73 := K7b.cell 3
        have k74 := K7b.cell 4
        clear own8 h9 B3 At3 AtW3 Ata K5a K7a k5 c0 c1 c2 c3 c4 Ba
        go_wp2_with fail
        have l8 := K8b.lt
        have l7' := K7b.lt
        have l5' := K5b.lt
        clear k5b k70 k71 k72 k73 k74
        generalize w3.alloc (.cells #[.slice A8 n5 c8] 24) = Wr at *
        generalize w3.heap.size = g8 at *
        generalize wr.heap.size = g7 at *
        refine (HRun.out _ _ _ _ AtP.out).mono ?_
        rintro e w4 ⟨A6, c6, rfl, own6, h9⟩
        obtain ⟨n6, hn6⟩ : ∃ n6, R.length = n6 := ⟨_, rfl⟩
        rw [show (R, N1, E1).1.length = n6 from hn6] at own6 ⊢
        have HN6 : Hid (n6 ≤ 8 ∧ R.length = n6) := Lib.hid (by have := HRs.out.1; omega)
        have K9 := Blk.new w4 24 #[.slice A6 n6 c6]
        have l9 := h9.size
        have hq : ∀ ad, A6 = some ad → ad.block < w4.heap.size := fun ad e => (own6.lt ad.block (by rw [e]; rfl)).2
        have HO6 := Lib.hid (own_below own6 ((Below.refl _ w4).alloc (Nat.le_refl _) (.cells #[.slice A6 n6 c6] 24)))
        have BR := h9.alloc h9.size (.cells #[.slice A6 n6 c6] 24)
        have HQ := Lib.hid hq
        clear own6 h9 hn6 hq HRun
        go_upto_region 10 with fail
        generalize w4.alloc (.cells #[.slice A6 n6 c6] 24) = Z at K9 HO6 BR ⊢
        generalize w4.heap.size = g9 at K9 l9 HQ ⊢
        -- region 10
        have Z7 := K7b.below BR l7'
        have Z8 := K8b.below BR l8
        have HAtW := Lib.hid (fun (u : World) (h : Below Z.heap.size Z u) => AtW.out.below HG.out (BR.trans (h.mono BR.size)))
        have HGz := Lib.hid (fun (u : World) (h : Below Z.heap.size Z u) => HGs.out u (Bb.trans ((BR.trans (h.mono BR.size)).mono Bb.size)))
        have HShz : Hid (∀ u, Below Z.heap.size Z u → Calls Try.prog 10 #[.agg #[.slice A8 n5 c8]] u (GivesP L u)) := Lib.hid (fun u h => HSh.out _ _ _ _ _ (HAtW.out u h) HT.out)
        have HL5 := Lib.hid AtW.out.len
        have HU5 := Lib.hid (show n5 ≤ 1000 ∧ U32s L from ⟨AtW.out.2.2.1, AtW.out.2.2.2.1⟩)
        have z7 := Z7.lt
        have z8 := Z8.lt
        go_cut [12, 13, 14] (fun s12 s13 s14 wx => ∃ (g12 : Nat) (A2 : Option Addr) (c2 : Nat), s12 = .pointer (some ⟨g12, 0, none⟩) ∧ s13 = .int .i64 N1 ∧ s14 = .int .i64 E1 ∧ Z.heap.size ≤ g12 ∧ Blk wx g12 24 #[.slice A2 n6 c2] ∧ Reads wx wx.heap.size 1 A2 n6 (us R) ∧ Below Z.heap.size Z wx)
        case first =>
          as_aux_lemma =>
            refine wp_region_held_drew (S := fun W => Blk W g7 31 #[.int .i64 k, .int .i64 a, .int .i64 b, .int .i64 cpu, .int .u32 (s : Int)] ∧ Blk W g8 24 #[.slice A8 n5 c8] ∧ Below Z.heap.size Z W) (by kernel_rfl) ⟨Z7, Z8, (Below.refl _ _).drew⟩ (fun hS => ?_)
            have GB := (Below.refl Z.heap.size Z).drew
            replace Z7 : Blk Z.drew _ _ _ := Z7
            replace Z8 : Blk Z.drew _ _ _ := Z8
            generalize Z.drew = Z1 at Z7 Z8 GB hS ⊢
            refine wpAnyH_take (i := 0) (v := .agg #[.int .i64 k, .int .i64 a, .int .i64 b, .int .i64 cpu, .int .u32 (s : Int)]) rfl (by kernel_rfl) (by kernel_rfl) (by kernel_rfl) (fun _ _ _ h => h) (Or.inl ⟨by rfl, fun u hSw => (by have c0 : u.cell? ⟨g7, 0, none⟩ = some (.int .i64 k) := hSw.1.cell 0; have c1 : u.cell? ⟨g7, 1, none⟩ = some (.int .i64 a) := hSw.1.cell 1; have c2 : u.cell? ⟨g7, 2, none⟩ = some (.int .i64 b) := hSw.1.cell 2; have c3 : u.cell? ⟨g7, 3, none⟩ = some (.int .i64 cpu) := hSw.1.cell 3; have c4 : u.cell? ⟨g7, 4, none⟩ = some (.int .u32 (s : Int)) := hSw.1.cell 4; go_simp)⟩) hS ?_
            refine wpAnyH_take (i := 1) (v := .agg #[.slice A8 n5 c8]) rfl (by kernel_rfl) (by kernel_rfl) (by kernel_rfl) (fun _ _ _ h => h) (Or.inl ⟨by rfl, fun u hSw => (by have c0 : u.cell? ⟨g8, 0, none⟩ = some (.slice A8 n5 c8) := hSw.2.1.cell 0; go_simp)⟩) hS ?_
            refine wpAnyH_ready (rs := [2, 8]) (by kernel_rfl) (by simp) ?_
            refine AllReadyH.cons rfl (fun K hK => ?_) (AllReadyH.cons rfl (fun K hK => ?_) (AllReadyH.nil))
            · skip
              go_simp
              refine (HShz.out _ GB).mono ?_
              rintro e v1 ⟨A1, c1, rfl, own1, h9⟩
              rw [HL5.out] at own1 ⊢
              replace Z7 := Z7.below h9 Z7.lt
              replace Z8 := Z8.below h9 Z8.lt
              replace GB := GB.trans (h9.mono GB.size)
              have At1 := Lib.hid (PAt.own own1 HU5.out.1 HU5.out.2 (HGz.out _ GB))
              clear own1 h9
              refine hK.out _ _ ⟨Z7, Z8, GB⟩ (fun hS => ?_)
              clear hK K
              refine wpAnyH_ready (rs := [3, 8]) (by kernel_rfl) (by simp) ?_
              refine AllReadyH.cons rfl (fun K hK => ?_) (AllReadyH.cons rfl (fun K hK => ?_) (AllReadyH.nil))
              · skip
                go_simp
                refine (HWan.out _ _ _ _ At1.out).mono ?_
                rintro e v2 ⟨A2, c2, rfl, own2, h9⟩
                rw [show (R, N1, E1).1.length = n6 from HN6.out.2] at own2 ⊢
                replace Z7 := Z7.below h9 Z7.lt
                replace Z8 := Z8.below h9 Z8.lt
                replace GB := GB.trans (h9.mono GB.size)
                have HO := Lib.hid (own_fresh own2 (.cells #[.slice none 0 0] 24) (.slice A2 n6 c2))
                clear own2 h9 At1
                refine hK.out _ _ ⟨Z7, Z8, GB⟩ (fun hS => ?_)
                clear hK K
                refine wpAnyH_take (i := 4) (v := .tuple #[.agg #[.slice A2 n6 c2], .int .i64 N1, .int .i64 E1]) rfl (by kernel_rfl) (by kernel_rfl) (by kernel_rfl) (fun _ _ _ h => h) (Or.inl ⟨by rfl, fun u hSw => (by go_simp)⟩) hS ?_
                refine wpAnyH_take (i := 5) (v := .agg #[.slice A2 n6 c2]) rfl (by kernel_rfl) (by kernel_rfl) (by kernel_rfl) (fun _ _ _ h => h) (Or.inl ⟨by rfl, fun u hSw => (by go_simp)⟩) hS ?_
                refine wpAnyH_take (i := 6) (v := .int .i64 N1) rfl (by kernel_rfl) (by kernel_rfl) (by kernel_rfl) (fun _ _ _ h => h) (Or.inl ⟨by rfl, fun u hSw => (by go_simp)⟩) hS ?_
                refine wpAnyH_take (i := 7) (v := .int .i64 E1) rfl (by kernel_rfl) (by kernel_rfl) (by kernel_rfl) (fun _ _ _ h => h) (Or.inl ⟨by rfl, fun u hSw => (by go_simp)⟩) hS ?_
                refine wpAnyH_ready (rs := [8]) (by kernel_rfl) (by simp) ?_
                refine AllReadyH.cons rfl (fun K hK => ?_) (AllReadyH.nil)
                go_simp
                have F := Blk.new v2 24 #[.slice none 0 0]
                have lb := GB.size
                replace Z7 := Z7.alloc (.cells #[.slice none 0 0] 24)
                replace Z8 := Z8.alloc (.cells #[.slice none 0 0] 24)
                replace GB := GB.alloc GB.size (.cells #[.slice none 0 0] 24)
                refine hK.out _ _ ⟨Z7, Z8, GB⟩ (fun hS => ?_)
                clear hK K
                generalize v2.alloc (.cells #[.slice none 0 0] 24) = v3 at Z7 Z8 GB hS F HO ⊢
                generalize v2.heap.size = g12 at F lb HO ⊢
                refine wpAnyH_ready (rs := [9]) (by kernel_rfl) (by simp) ?_
                refine AllReadyH.cons rfl (fun K hK => ?_) (AllReadyH.nil)
                have d0 := F.cell 0
                have f0 := F.frozen 0
                have Y7 := Z7.far (p := ⟨g12, 0, none⟩) (by simp; omega) (.slice A2 n6 c2)
                have Y8 := Z8.far (p := ⟨g12, 0, none⟩) (by simp; omega) (.slice A2 n6 c2)
                have P := put1 (x := (.slice A2 n6 c2)) F GB lb
                have HF := Lib.hid (And.intro P.1 (And.intro (own_reads' HO.out) P.2))
                have Q := P.2
                clear hS P F GB HO Z7 Z8
                go_simp
                refine hK.out _ _ ⟨Y7, Y8, Q⟩ (fun hS => ?_)
                clear hK K d0 f0 Q Y7 Y8
                generalize v3.setCell ⟨g12, 0, none⟩ (.slice A2 n6 c2) = Y at hS HF ⊢
                refine wpAnyH_take (i := 10) (v := .int .i64 N1) rfl (by kernel_rfl) (by kernel_rfl) (by kernel_rfl) (fun _ _ _ h => h) (Or.inl ⟨by rfl, fun u hSw => (by go_simp)⟩) hS ?_
                refine wpAnyH_take (i := 11) (v := .int .i64 E1) rfl (by kernel_rfl) (by kernel_rfl) (by kernel_rfl) (fun _ _ _ h => h) (Or.inl ⟨by rfl, fun u hSw => (by go_simp)⟩) hS ?_
                refine wpAnyH_done (by kernel_rfl) ?_ _
                go_wp2_with fail
                go_meet
                exact ⟨g12, A2, c2, rfl, rfl, rfl, lb, HF.out.1, HF.out.2.1, HF.out.2.2⟩
              · skip
                go_simp
                have F := Blk.new v1 24 #[.slice none 0 0]
                have lb := GB.size
                replace Z7 := Z7.alloc (.cells #[.slice none 0 0] 24)
                replace Z8 := Z8.alloc (.cells #[.slice none 0 0] 24)
                replace At1 := Lib.hid (At1.out.below HG.out ((Below.refl _ _).alloc (Nat.le_refl _) (.cells #[.slice none 0 0] 24)))
                replace GB := GB.alloc GB.size (.cells #[.slice none 0 0] 24)
                refine hK.out _ _ ⟨Z7, Z8, GB⟩ (fun hS => ?_)
                clear hK K
                generalize v1.alloc (.cells #[.slice none 0 0] 24) = v4 at Z7 Z8 GB hS F At1 ⊢
                generalize v1.heap.size = g12 at F lb ⊢
                refine wpAnyH_ready (rs := [3]) (by kernel_rfl) (by simp) ?_
                refine AllReadyH.cons rfl (fun K hK => ?_) (AllReadyH.nil)
                go_simp
                refine (HWan.out _ _ _ _ At1.out).mono ?_
                rintro e v5 ⟨A2, c2, rfl, own2, h9⟩
                rw [show (R, N1, E1).1.length = n6 from HN6.out.2] at own2 ⊢
                replace Z7 := Z7.below h9 Z7.lt
                replace Z8 := Z8.below h9 Z8.lt
                have fl := F.lt
                replace F := F.below h9 F.lt
                replace GB := GB.trans (h9.mono GB.size)
                have HO := Lib.hid (own_set own2 fl 0 (.slice A2 n6 c2))
                clear own2 h9 At1
                refine hK.out _ _ ⟨Z7, Z8, GB⟩ (fun hS => ?_)
                clear hK K
                refine wpAnyH_take (i := 4) (v := .tuple #[.agg #[.slice A2 n6 c2], .int .i64 N1, .int .i64 E1]) rfl (by kernel_rfl) (by kernel_rfl) (by kernel_rfl) (fun _ _ _ h => h) (Or.inl ⟨by rfl, fun u hSw => (by go_simp)⟩) hS ?_
                refine wpAnyH_take (i := 5) (v := .agg #[.slice A2 n6 c2]) rfl (by kernel_rfl) (by kernel_rfl) (by kernel_rfl) (fun _ _ _ h => h) (Or.inl ⟨by rfl, fun u hSw => (by go_simp)⟩) hS ?_
                refine wpAnyH_take (i := 6) (v := .int .i64 N1) rfl (by kernel_rfl) (by kernel_rfl) (by kernel_rfl) (fun _ _ _ h => h) (Or.inl ⟨by rfl, fun u hSw => (by go_simp)⟩) hS ?_
                refine wpAnyH_take (i := 7) (v := .int .i64 E1) rfl (by kernel_rfl) (by kernel_rfl) (by kernel_rfl) (fun _ _ _ h => h) (Or.inl ⟨by rfl, fun u hSw => (by go_simp)⟩) hS ?_
                refine wpAnyH_ready (rs := [9]) (by kernel_rfl) (by simp) ?_
                refine AllReadyH.cons rfl (fun K hK => ?_) (AllReadyH.nil)
                have d0 := F.cell 0
                have f0 := F.frozen 0
                have Y7 := Z7.far (p := ⟨g12, 0, none⟩) (by simp; omega) (.slice A2 n6 c2)
                have Y8 := Z8.far (p := ⟨g12, 0, none⟩) (by simp; omega) (.slice A2 n6 c2)
                have P := put1 (x := (.slice A2 n6 c2)) F GB lb
                have HF := Lib.hid (And.intro P.1 (And.intro (own_reads' HO.out) P.2))
                have Q := P.2
                clear hS P F GB HO Z7 Z8
                go_simp
                refine hK.out _ _ ⟨Y7, Y8, Q⟩ (fun hS => ?_)
                clear hK K d0 f0 Q Y7 Y8
                generalize v5.setCell ⟨g12, 0, none⟩ (.slice A2 n6 c2) = Y at hS HF ⊢
                refine wpAnyH_take (i := 10) (v := .int .i64 N1) rfl (by kernel_rfl) (by kernel_rfl) (by kernel_rfl) (fun _ _ _ h => h) (Or.inl ⟨by rfl, fun u hSw => (by go_simp)⟩) hS ?_
                refine wpAnyH_take (i := 11) (v := .int .i64 E1) rfl (by kernel_rfl) (by kernel_rfl) (by kernel_rfl) (fun _ _ _ h => h) (Or.inl ⟨by rfl, fun u hSw => (by go_simp)⟩) hS ?_
                refine wpAnyH_done (by kernel_rfl) ?_ _
                go_wp2_with fail
                go_meet
                exact ⟨g12, A2, c2, rfl, rfl, rfl, lb, HF.out.1, HF.out.2.1, HF.out.2.2⟩
            · skip
              go_simp
              have F := Blk.new Z1 24 #[.slice none 0 0]
              have lb := GB.size
              replace Z7 := Z7.alloc (.cells #[.slice none 0 0] 24)
              replace Z8 := Z8.alloc (.cells #[.slice none 0 0] 24)
              replace GB := GB.alloc GB.size (.cells #[.slice none 0 0] 24)
              refine hK.out _ _ ⟨Z7, Z8, GB⟩ (fun hS => ?_)
              clear hK K
              generalize Z1.alloc (.cells #[.slice none 0 0] 24) = v6 at Z7 Z8 GB hS F ⊢
              generalize Z1.heap.size = g12 at F lb ⊢
              refine wpAnyH_ready (rs := [2]) (by kernel_rfl) (by simp) ?_
              refine AllReadyH.cons rfl (fun K hK => ?_) (AllReadyH.nil)
              go_simp
              refine (HShz.out _ GB).mono ?_
              rintro e v7 ⟨A1, c1, rfl, own1, h9⟩
              rw [HL5.out] at own1 ⊢
              replace Z7 := Z7.below h9 Z7.lt
              replace Z8 := Z8.below h9 Z8.lt
              replace F := F.below h9 F.lt
              replace GB := GB.trans (h9.mono GB.size)
              have At1 := Lib.hid (PAt.own own1 HU5.out.1 HU5.out.2 (HGz.out _ GB))
              clear own1 h9
              refine hK.out _ _ ⟨Z7, Z8, GB⟩ (fun hS => ?_)
              clear hK K
              refine wpAnyH_ready (rs := [3]) (by kernel_rfl) (by simp) ?_
              refine AllReadyH.cons rfl (fun K hK => ?_) (AllReadyH.nil)
              go_simp
              refine (HWan.out _ _ _ _ At1.out).mono ?_
              rintro e v8 ⟨A2, c2, rfl, own2, h9⟩
              rw [show (R, N1, E1).1.length = n6 from HN6.out.2] at own2 ⊢
              replace Z7 := Z7.below h9 Z7.lt
              replace Z8 := Z8.below h9 Z8.lt
              have fl := F.lt
              replace F := F.below h9 F.lt
              replace GB := GB.trans (h9.mono GB.size)
              have HO := Lib.hid (own_set own2 fl 0 (.slice A2 n6 c2))
              clear own2 h9 At1
              refine hK.out _ _ ⟨Z7, Z8, GB⟩ (fun hS => ?_)
              clear hK K
              refine wpAnyH_take (i := 4) (v := .tuple #[.agg #[.slice A2 n6 c2], .int .i64 N1, .int .i64 E1]) rfl (by kernel_rfl) (by kernel_rfl) (by kernel_rfl) (fun _ _ _ h => h) (Or.inl ⟨by rfl, fun u hSw => (by go_simp)⟩) hS ?_
              refine wpAnyH_take (i := 5) (v := .agg #[.slice A2 n6 c2]) rfl (by kernel_rfl) (by kernel_rfl) (by kernel_rfl) (fun _ _ _ h => h) (Or.inl ⟨by rfl, fun u hSw => (by go_simp)⟩) hS ?_
              refine wpAnyH_take (i := 6) (v := .int .i64 N1) rfl (by kernel_rfl) (by kernel_rfl) (by kernel_rfl) (fun _ _ _ h => h) (Or.inl ⟨by rfl, fun u hSw => (by go_simp)⟩) hS ?_
              refine wpAnyH_take (i := 7) (v := .int .i64 E1) rfl (by kernel_rfl) (by kernel_rfl) (by kernel_rfl) (fun _ _ _ h => h) (Or.inl ⟨by rfl, fun u hSw => (by go_simp)⟩) hS ?_
              refine wpAnyH_ready (rs := [9]) (by kernel_rfl) (by simp) ?_
              refine AllReadyH.cons rfl (fun K hK => ?_) (AllReadyH.nil)
              have d0 := F.cell 0
              have f0 := F.frozen 0
              have Y7 := Z7.far (p := ⟨g12, 0, none⟩) (by simp; omega) (.slice A2 n6 c2)
              have Y8 := Z8.far (p := ⟨g12, 0, none⟩) (by simp; omega) (.slice A2 n6 c2)
              have P := put1 (x := (.slice A2 n6 c2)) F GB lb
              have HF := Lib.hid (And.intro P.1 (And.intro (own_reads' HO.out) P.2))
              have Q := P.2
              clear hS P F GB HO Z7 Z8
              go_simp
              refine hK.out _ _ ⟨Y7, Y8, Q⟩ (fun hS => ?_)
              clear hK K d0 f0 Q Y7 Y8
              generalize v8.setCell ⟨g12, 0, none⟩ (.slice A2 n6 c2) = Y at hS HF ⊢
              refine wpAnyH_take (i := 10) (v := .int .i64 N1) rfl (by kernel_rfl) (by kernel_rfl) (by kernel_rfl) (fun _ _ _ h => h) (Or.inl ⟨by rfl, fun u hSw => (by go_simp)⟩) hS ?_
              refine wpAnyH_take (i := 11) (v := .int .i64 E1) rfl (by kernel_rfl) (by kernel_rfl) (by kernel_rfl) (fun _ _ _ h => h) (Or.inl ⟨by rfl, fun u hSw => (by go_simp)⟩) hS ?_
              refine wpAnyH_done (by kernel_rfl) ?_ _
              go_wp2_with fail
              go_meet
              exact ⟨g12, A2, c2, rfl, rfl, rfl, lb, HF.out.1, HF.out.2.1, HF.out.2.2⟩
        case rest =>
          obtain ⟨g12, A2, c2, rfl, rfl, rfl, l12, K12, R2, BZ⟩ := hcut
          have lz := K9.lt
          replace K9 := K9.below BZ K9.lt
          have HOx := Lib.hid (own_below HO6.out BZ)
          have Bx := BR.trans (BZ.mono BR.size)
          have HAP := Lib.hid (fun (u : World) (h : Below Wr.heap.size Wr u) => AtP.out.below HG.out h)
          have HAW := Lib.hid (fun (u : World) (h : Below Wr.heap.size Wr u) => AtW.out.below HG.out h)
          have HK5 : Hid (∀ u : World, Below Wr.heap.size Wr u → Blk u w2.heap.size 24 #[.slice A5 n5 c5]) := Lib.hid (fun u h => K5b.below h l5')
          have HK8 : Hid (∀ u : World, Below Wr.heap.size Wr u → Blk u g8 24 #[.slice A8 n5 c8]) := Lib.hid (fun u h => K8b.below h l8)
          have HB : Hid (∀ u : World, Below Wr.heap.size Wr u → Below w.heap.size w u) := Lib.hid (fun u h => Bb.trans (h.mono Bb.size))
          have HNs : Hid (n5 ≤ 1000 ∧ n6 ≤ 1000) := Lib.hid (by have := AtP.out.2.2.1; have := HN6.out.1; omega)
          have HLt := Lib.hid (show w2.heap.size < Wr.heap.size ∧ Wr.heap.size ≤ g9 ∧ g9 < g12 from ⟨l5', l9, by omega⟩)
          have k9 := K9.cell 0
          have k12 := K12.cell 0
          have q1 : (E1 != E1) = false := by simp
          have q2 : (N1 != N1) = false := by simp
          clear K5b K7b K8b BR BZ lz l5' l7' l8 l5 l7 z7 z8 Z7 Z8 HO6 AtP AtW l12 l9 Bb HAtW HGz HShz HWan HSh HL5 HU5 HN5
          go_wp2_with fail
          refine (HSa.out _ _ _ _ _ _ R _ (own_reads' HOx.out) R2 HNs.out.2).mono ?_
          rintro e w6 ⟨rfl, h9⟩
          replace K9 := K9.below h9 K9.lt
          replace K12 := K12.below h9 K12.lt
          replace HOx := Lib.hid (own_below HOx.out h9)
          replace R2 := (R2.below h9).more h9.size
          replace Bx := Bx.trans (h9.mono Bx.size)
          have k5 := (HK5.out _ Bx).cell 0
          have k8 := (HK8.out _ Bx).cell 0
          clear k9 k12 h9
          go_wp2_with fail
          refine (HSa.out _ _ _ _ _ _ L _ (HAP.out _ Bx).1 (HAW.out _ Bx).1 HNs.out.1).mono ?_
          rintro e w7 ⟨rfl, h9⟩
          replace K9 := K9.below h9 K9.lt
          replace K12 := K12.below h9 K12.lt
          replace HOx := Lib.hid (own_below HOx.out h9)
          replace R2 := (R2.below h9).more h9.size
          replace Bx := Bx.trans (h9.mono Bx.size)
          have k12 := K12.cell 0
          clear k5 k8 h9
          go_wp2_with fail
          refine (HCy.out _ _ _ R _ R2 HNs.out.2).mono ?_
          rintro e w8 ⟨A9, c9, rfl, own9, h9⟩
          rw [HN6.out.2] at own9 ⊢
          have l12 := K12.lt
          replace K9 := K9.below h9 K9.lt
          replace K12 := K12.below h9 K12.lt
          replace HOx := Lib.hid (own_below HOx.out h9)
          replace Bx := Bx.trans (h9.mono Bx.size)
          have d12 := K12.cell 0
          have f12 := K12.frozen 0
          have P := put1 (x := .slice A9 n6 c9) K12 Bx (by have := HLt.out; omega)
          have HW : Hid (QW Wr (w8.setCell ⟨g12, 0, none⟩ (.slice A9 n6 c9)) A6 n6 c6 R g9 g12 w7.heap.size A9 n6 c9 R) := Lib.hid ⟨P.2, K9.far (p := ⟨g12, 0, none⟩) (by have := HLt.out; simp; omega) _, P.1, own_off HOx.out (fun k hk e => by
            cases hA : A6 with
            | none => rw [hA] at hk; cases hk
            | some ad =>
              rw [hA] at hk
              have h1 := HQ.out ad hA
              have h2 := HLt.out
              injection hk with hk
              omega) _, own_set own9 l12 0 _, HQ.out, HLt.out.2.2, l12⟩
          clear P own9 h9 K9 K12 HOx Bx R2 k12 l12
          go_upto_region 14 with fail
          generalize w8.setCell ⟨g12, 0, none⟩ (.slice A9 n6 c9) = V at HW ⊢
          generalize w7.heap.size = b9 at HW
          clear d12 f12
          have k9 := HW.out.box.cell 0
          go_wp2_with fail
          clear k9
          go_loopw [71] (fun i wv => ∃ (i' : Nat) (l' : List Nat), i' ≤ n6 ∧ i = .int .i64 (i' : Int) ∧ Hid (QW Wr wv A6 n6 c6 l' g9 g12 b9 A9 n6 c9 R)) (fun i _ => n6 - (intOf i).toNat)
          case atStart => exact ⟨0, R, by omega, rfl, HW⟩
          case round =>
            clear HW
            obtain ⟨i', l', hi, rfl, HW⟩ := hrel
            by_cases hlt : i' < n6
            · obtain ⟨ad, x, rfl, hc6, d0, f0, HP⟩ := HW.out.at_ hlt
              have HP9 := Lib.hid (HP 99)
              have k9 := HW.out.box.cell 0
              have i0 : (0 : Int) ≤ (i' : Int) := by omega
              have i1 : (i' : Int) < (n6 : Int) := by omega
              have i9 : i' < 100 := by have := HN6.out.1; omega
              have HJi : Hid (i' + 1 ≤ n6) := Lib.hid (by omega)
              clear HP hi hlt
              go_wp2
              go_roundw
              case rel => exact ⟨i' + 1, l'.set i' 99, HJi.out, by go_num, HP9⟩
              case measure => have := HJi.out; simp [intOf] <;> omega
            · obtain rfl : i' = n6 := by omega
              have Bv := HW.out.below
              have k5 := (HK5.out _ Bv).cell 0
              have k8 := (HK8.out _ Bv).cell 0
              clear hlt hi
              go_wp2_with fail
              refine (HSa.out _ _ _ _ _ _ L _ (HAP.out _ Bv).1 (HAW.out _ Bv).1 HNs.out.1).mono ?_
              rintro e w10 ⟨rfl, h9⟩
              have Bu := Bv.trans (h9.mono Bv.size)
              clear k5 k8
              by_cases hE : E1 = 0
              · have g0 : (E1 == 0) = true := by simpa using hE
                have hRr := HRs.out.2 hE
                have K5 := HK5.out _ Bu
                have K12 := HW.out.box2.below h9 HW.out.box2.lt
                have P := put1 (x := .slice A9 i' c9) K5 (HB.out _ Bu) HG5.out
                have d5 := K5.cell 0
                have f5 := K5.frozen 0
                have k12 := K12.cell 0
                have HFin : Hid (PAt G (w10.setCell ⟨w2.heap.size, 0, none⟩ (.slice A9 i' c9)) A9 i' c9 R) := Lib.hid (PAt.own (own_set (own_below HW.out.own2 h9) (by have := HLt.out; have := HW.out.le; omega) 0 (.slice A9 i' c9)) HNs.out.2 (u32s_right hRr) (HGs.out _ P.2))
                have HPP := Lib.hid P
                have HT2 : Hid (R.length ≤ 12) := Lib.hid (by have := HN6.out; omega)
                clear hE P h9 K5 K12 hRr Bu Bv
                go_wp2
                go_roundw
                case rel => exact ⟨j + 1, R, A9, i', c9, HJ.out.1, HJ.out.2, by go_num, HT2, HFin, HPP.out.1, HPP.out.2⟩
                case measure => have := HJ.out.1; simp [intOf] <;> omega
              · have g0 : (E1 == 0) = false := by simpa using hE
                have HFin := Lib.hid (HAP.out _ Bu)
                have HPP := Lib.hid (And.intro (HK5.out _ Bu) (HB.out _ Bu))
                clear hE h9 Bu Bv
                go_wp2
                go_roundw
                case rel => exact ⟨j + 1, L, A5, n5, c5, HJ.out.1, HJ.out.2, by go_num, HT, HFin, HPP.out.1, HPP.out.2⟩
                case measure => have := HJ.out.1; simp [intOf] <;> omega
        -- end
    · have BH := Lib.hid Br
      obtain rfl : n = j := by omega
      go_wp2
      go_ret
      exact ⟨rfl, BH.out⟩

end Go.Proofs.Ytnckfgnhlnichaa
