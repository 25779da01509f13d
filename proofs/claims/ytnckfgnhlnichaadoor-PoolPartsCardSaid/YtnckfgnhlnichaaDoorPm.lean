/-
  The landed pool: Split, Join, Move. No statement is proved here.
-/
import Derived.Test.YtnckfgnhlnichaaDoorPl
import Derived.Test.YtnckfgnhlnichaaDoorPj
namespace Go.Proofs.YtnckfgnhlnichaaDoor
open Go.RowKit

theorem splitR_err {l : List Nat} {f : Int} {s : Nat} (h : ¬ (splitR l f s).2.2 = 0) : splitR l f s = ([], 0, (splitR l f s).2.2) := by
  unfold splitR splitV at *
  by_cases h1 : rightP l = true
  · rw [if_pos h1] at *
    split
    · rfl
    · split
      · rfl
      · split
        · rfl
        · split
          · rfl
          · split
            · rfl
            · rename_i a b c d e
              rw [if_neg a, if_neg b, if_neg c, if_neg d, if_neg e] at h
              exact absurd rfl h
  · rw [if_neg h1]
theorem moveR_err {l : List Nat} {k t : Int} (h : ¬ (moveR l k t).2.2 = 0) : moveR l k t = ([], 0, (moveR l k t).2.2) := by
  unfold moveR moveV at *
  by_cases h1 : rightP l = true
  · rw [if_pos h1] at *
    split
    · rfl
    · split
      · rfl
      · split
        · rfl
        · split
          · rfl
          · rename_i a b c d
            rw [if_neg a, if_neg b, if_neg c, if_neg d] at h
            exact absurd rfl h
  · rw [if_neg h1]
theorem right_of_ok {l : List Nat} {f : Int} {s : Nat} (h : (splitR l f s).2.2 = 0) : rightP l = true := by
  cases hr : rightP l with
  | true => rfl
  | false => unfold splitR at h; rw [hr] at h; simp at h
theorem right_of_okm {l : List Nat} {k t : Int} (h : (moveR l k t).2.2 = 0) : rightP l = true := by
  cases hr : rightP l with
  | true => rfl
  | false => unfold moveR at h; rw [hr] at h; simp at h
def subB (x s : Nat) : Bool := !(s &&& x == s) || (x &&& (4294967295 - s) == x - s)
theorem sub_all : (List.range 256).all (fun x => (List.range 256).all (subB x)) = true := by kernel_rfl
theorem sub_u32 {x s : Nat} (hx : x < 256) (hs : s < 256) (h : s &&& x = s) : bits .andNot .u32 (x : Int) (s : Int) = ((x - s : Nat) : Int) := by
  have h2 : subB x s = true := of_all 256 (of_all 256 sub_all hx) hs
  rw [u32_andNot_nat _ _ (by omega) (by omega)]
  unfold subB at h2
  rw [h] at h2
  simp at h2
  rw [h2]
theorem Split_len {l : List Nat} {j y s : Nat} : (l.set j y ++ [s]).length = l.length + 1 := by simp
theorem at_lt {l : List Nat} {j x : Nat} (h : l[j]? = some x) : j < l.length := (List.getElem?_eq_some_iff.1 h).1

set_option maxRecDepth 100000 in
set_option maxHeartbeats 8000000 in
theorem lsplit_any {G : World → Prop} (hG : Steady G) : PSplitOk G := by
  intro A n c l f s w hAt hs
  have hl := hAt.len
  have hAb := fun (u : World) (h : Below w.heap.size w u) => hAt.below hG h
  obtain ⟨K0, K1, K2, K3, B⟩ := blks4 w 26 3 32 26 #[.slice A n c] #[.int .i64 f] #[.int .u32 (s : Int)] #[.slice none 0 0]
  have HUn := Lib.hid (fun (u : World) (h : Below w.heap.size w u) => lunsplit_any hG A n c l f s u (hAb u h) hs)
  have HK := Lib.hid (And.intro K0 (And.intro K1 (And.intro K2 (And.intro K3 B))))
  have k0 := K0.cell 0
  have k1 := K1.cell 0
  have k2 := K2.cell 0
  clear K0 K1 K2 K3 B
  by_cases hE : (splitR l f s).2.2 = 0
  · have hr := right_of_ok hE
    obtain ⟨q, hq⟩ : ∃ q, splitV l f s = q := ⟨_, rfl⟩
    have hqs : splitR l f s = q := by unfold splitR; rw [if_pos hr, hq]
    obtain ⟨l', k', e'⟩ := q
    rw [hqs] at hE
    simp only at hE
    subst hE
    obtain ⟨j, x, rfl, hx, h8, _, hsx, _, _, hl', hk'⟩ := split_ok hq
    have x8 := (sets_at (right_parts8 hr).2.2.1 hx).1
    have hsub := sub_u32 x8 h8 hsx
    have hjl := at_lt hx
    have h1 : 1 ≤ n := by have := (right_parts8 hr).1; omega
    have hn := hAt.2.2.1
    have HV := Lib.hid hqs
    rw [hqs] at HUn
    have HLn : Hid (l'.length = l.length + 1 ∧ k' = (n : Int)) := Lib.hid ⟨by rw [hl', Split_len], by rw [hk', hl]⟩
    have HCh := Lib.hid (fun (u : World) (h : Below w.heap.size w u) (hd : DoesOkSplit (.pointer (some ⟨w.heap.size + 1, 0, none⟩)) (.pointer (some ⟨w.heap.size + 1 + 1, 0, none⟩)) l l' u) => lchangedSplit_any hG A n c l l' _ _ u (hAb u h) h1 hd)
    have HDo : Hid (∀ u, Blk u (w.heap.size + 1) 3 #[.int .i64 (j : Int)] → Blk u (w.heap.size + 1 + 1) 32 #[.int .u32 (s : Int)] → DoesOkSplit (.pointer (some ⟨w.heap.size + 1, 0, none⟩)) (.pointer (some ⟨w.heap.size + 1 + 1, 0, none⟩)) l l' u) := Lib.hid (by
      intro u Ka Kb b p n' c' v hb1 hb2 hB hnc hRow
      have := hRow.len
      have ha := Ka.lt
      have hb := Kb.lt
      subst hl'
      exact lsplitdo_any b p n' c' j (w.heap.size + 1) (w.heap.size + 1 + 1) s x (x - s) l v hRow hx ((Ka.below hB ha).cell 0) ((Kb.below hB hb).cell 0) (by omega) (by omega) hsub hb2)
    clear hr hq hqs hx h8 hsx hl' hk' x8 hsub hjl h1 hAt hAb hG hs hl hn
    go_enter Tryd.func9, Tryd.ntmps9
    go_wp2_with fail
    refine (HUn.out _ HK.out.2.2.2.2).mono ?_
    rintro e w5 ⟨rfl, h5⟩
    have B5 := HK.out.2.2.2.2.trans (h5.mono HK.out.2.2.2.2.size)
    have K0 := HK.out.1.below h5 HK.out.1.lt
    have K1 := HK.out.2.1.below h5 HK.out.2.1.lt
    have K2 := HK.out.2.2.1.below h5 HK.out.2.2.1.lt
    have K3 := HK.out.2.2.2.1.below h5 HK.out.2.2.2.1.lt
    have q0 := K0.cell 0
    clear h5 k0 k1 k2
    go_wp2_with fail
    refine (HCh.out _ B5 (HDo.out _ K1 K2)).mono ?_
    rintro e w6 ⟨A6, c6, rfl, own6, h6⟩
    have hlt := K3.lt
    have B6 := (B5.trans (h6.mono B5.size)).alloc (Nat.le_trans B5.size h6.size) (.cells #[.slice A6 l'.length c6] 26)
    have K6 := (K3.below h6 hlt).alloc (.cells #[.slice A6 l'.length c6] 26)
    have K7 := (K0.below h6 K0.lt).alloc (.cells #[.slice A6 l'.length c6] 26)
    have KB := Blk.new w6 26 #[.slice A6 l'.length c6]
    have own7 := own_down (own6.alloc (.cells #[.slice A6 l'.length c6] 26)) (show w.heap.size + 1 + 1 + 1 + 1 ≤ w5.heap.size by omega)
    clear q0 own6 h6 K0 K1 K2 K3 B5 hlt
    go_upto_region 5 with fail
    generalize w6.alloc (.cells #[.slice A6 l'.length c6] 26) = W at K6 K7 KB B6 own7 ⊢
    generalize w6.heap.size = g10 at KB ⊢
    have d1 : W.drew.cell? ⟨g10, 0, none⟩ = some (.slice A6 l'.length c6) := KB.cell 0
    have d2 : W.drew.cell? ⟨w.heap.size, 0, none⟩ = some (.slice A n c) := K7.cell 0
    have d5 : W.cell? ⟨w.heap.size, 0, none⟩ = some (.slice A n c) := K7.cell 0
    have d3 : W.drew.cell? ⟨w.heap.size + 1 + 1 + 1, 0, none⟩ = some (.slice none 0 0) := K6.cell 0
    have d4 : W.drew.frozen? ⟨w.heap.size + 1 + 1 + 1, 0, none⟩ = false := K6.frozen 0
    have HKF := Lib.hid (put1 (x := .slice A6 l'.length c6) K6 B6 (by omega))
    have HO := Lib.hid (own_set own7 (g := w.heap.size + 1 + 1 + 1) (by omega) 0 (.slice A6 l'.length c6))
    clear K6 K7 KB B6 own7
    go_region
    go_wp2_with fail
    rw [HV.out]
    exact bodyPost_ret (v := .tuple #[.agg #[.slice A6 l'.length c6], .int .i64 (n : Int), .int .i64 0]) (results_pools3 Tryd.results9 _ _ _ _ _ _ rfl HKF.out.1 Tryd.underlying26 rfl (by kernel_rfl)) rfl ⟨A6, c6, by rw [HLn.out.2], own_down HO.out.drew (by omega), HKF.out.2.drew⟩
  · have HV := Lib.hid (splitR_err hE)
    obtain ⟨E, hEE⟩ : ∃ E, (splitR l f s).2.2 = E := ⟨_, rfl⟩
    rw [hEE] at hE HV HUn
    have e0 : (E == 0) = false := by simp; exact hE
    clear hEE hE hAt hAb hG hs hl
    go_enter Tryd.func9, Tryd.ntmps9
    go_wp2_with fail
    refine (HUn.out _ HK.out.2.2.2.2).mono ?_
    rintro e w5 ⟨rfl, h5⟩
    have B5 := HK.out.2.2.2.2.trans (h5.mono HK.out.2.2.2.2.size)
    have K3 := HK.out.2.2.2.1.below h5 HK.out.2.2.2.1.lt
    have q3 := K3.cell 0
    have f3 := K3.frozen 0
    have HKF := Lib.hid (put1 (x := .slice none 0 0) K3 B5 (by omega))
    clear h5 k0 k1 k2 K3 B5
    go_wp2_with fail
    rw [HV.out]
    exact bodyPost_ret (v := .tuple #[.agg #[.slice none 0 0], .int .i64 0, .int .i64 E]) (results_pools3 Tryd.results9 _ _ _ _ _ _ rfl HKF.out.1 Tryd.underlying26 rfl (by kernel_rfl)) rfl (GivesP3.none_ HKF.out.2)

end Go.Proofs.YtnckfgnhlnichaaDoor
