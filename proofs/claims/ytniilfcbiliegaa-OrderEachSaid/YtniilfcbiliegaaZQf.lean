/-
  OrderTurned's walk: whatever the order in which gangs are handed in, the entities are the same. No statement is proved here.
-/
import Derived.Test.YtniilfcbiliegaaZQd
import Derived.Test.YtniilfcbiliegaaZQe
namespace Go.Proofs.Ytniilfcbiliegaa
open Go.RowKit Go.Maps

theorem turn_at (t : Int) {m : Nat} (h0 : 0 < m) (h1 : m ≤ 17) : ∃ k : Nat, k < m ∧ wrap64 ((IntKind.u64.wrap t).tmod (m : Int)) = (k : Int) := by
  have hw : (0 : Int) ≤ IntKind.u64.wrap t := by rw [IntKind.wrap_u64]; omega
  have a := Int.tmod_nonneg (m : Int) hw
  have b := Int.tmod_lt_of_pos (IntKind.u64.wrap t) (show (0 : Int) < (m : Int) by omega)
  refine ⟨((IntKind.u64.wrap t).tmod (m : Int)).toNat, by omega, ?_⟩
  unfold wrap64
  omega
theorem add_block (a : Addr) (k : Nat) : (a.add k).block = a.block := by
  unfold Addr.add
  split <;> rfl
theorem reads_drop {w : World} {B n k : Nat} {ad : Addr} {G : List Gg} (h : Reads w B 1 (some ad) n (flat gv G)) (hk : k ≤ n) : Reads w B 1 (some (ad.add k)) (n - k) (flat gv (G.drop k)) := by
  have hl := h.1
  rw [length_flat gv length_gv] at hl
  refine ⟨by rw [length_flat gv length_gv, List.length_drop]; omega, fun h0 => ?_⟩
  obtain ⟨a2, e, hb, hc⟩ := h.2 (by omega)
  obtain rfl : ad = a2 := Option.some.inj e
  refine ⟨_, rfl, by rw [add_block]; exact hb, fun j u hj => ?_⟩
  rw [flat_gv, List.map_drop, List.getElem?_drop, ← flat_gv] at hj
  have := hc (k + j) u hj
  rw [Addr.add_add]
  exact this
theorem mem_flat_len : ∀ {l : List Et} {x : Et}, x ∈ l → x.1.length ≤ (l.flatMap fun x => x.1).length
  | y :: l, x, h => by
    rw [List.flatMap_cons, List.length_append]
    rcases List.mem_cons.1 h with e | e
    · subst e; omega
    · have := mem_flat_len e; omega
theorem entR_mem_len {qs : List Rn} {ws : List Wt} {gs : List (List Int)} (hU : UQ qs) {x : Et} (hx : x ∈ entR qs ws gs) : x.1.length ≤ 16 := by
  unfold entR at hx
  split at hx
  · rename_i h
    obtain ⟨q1, q2, q3⟩ := chkO_ok h
    have hL := lg_of hU q1 q2
    have h1 := mem_flat_len ((sortE_perm _).mem_iff.1 hx)
    rw [(ents_ids hL q3).length_eq] at h1
    unfold idsP at h1
    rw [List.length_map, pts_len q2.len] at h1
    have := q1.len
    omega
  · cases hx
theorem own_form {w : World} {base n size : Nat} {e : TypeId} {v : Value} {xs : List Value} (h : w.ownsRow base e size v n xs) (h0 : 0 < n) : ∃ g c, v = .slice (some ⟨g, 0, none⟩) n c ∧ base ≤ g := by
  rcases h.2 with ⟨_, h1⟩ | ⟨g, cap, cur, hv, hb, _⟩
  · omega
  · exact ⟨g, cap, hv, hb⟩
theorem ES.kept {w w' : World} {B : Nat} {A : Option Addr} {n c : Nat} {E : List En} (h : ES w B A n c E) {g N : Nat} (hg : w.grownBy w' (some g)) (hN : N ≤ g) (hl : ∀ j, (Value.slice A n c).ownBlock = some j → j < N) (hm : ∀ e ∈ E, ∀ j, (slE e).ownBlock = some j → j < N) : ES w' B A n c E := by
  refine ⟨h.row.kept hg ?_, fun e he => (h.mem e he).kept hg ?_, h.ne⟩
  · cases ho : (Value.slice A n c).ownBlock with
    | none => exact .inl rfl
    | some k => exact .inr (fun e2 => by have := hl k ho; have := Option.some.inj e2; omega)
  · cases ho : (slE e).ownBlock with
    | none => exact .inl rfl
    | some k => exact .inr (fun e2 => by have := hm e he k ho; have := Option.some.inj e2; omega)

set_option maxRecDepth 100000 in
set_option maxHeartbeats 16000000 in
theorem turned_walk (A : Option Addr) (n c : Nat) (qs : List Rn) (A' : Option Addr) (n' c' : Nat) (ws : List Wt) (A2 : Option Addr) (n2 c2 : Nat) (gs : List Gg) (t : Int) (w : World) (hR : RA w A n c qs A' n' c' ws A2 n2 gs) :
    Calls Try.prog 7 #[.agg #[.slice A n c, .slice A' n' c', .slice A2 n2 c2], .int .i64 t] w (Said (.bool true) w) := by
  obtain ⟨ji, hi1, hy0, hy1, hy2⟩ := info_parts9 slice_info
  have HSh := Lib.hid (fun (u : World) (h : Below w.heap.size w u) => short_any A n c qs A' n' c' ws A2 n2 c2 gs u ((hR.q.below h).more h.size) hR.qc ((hR.w.below h).more h.size) hR.wc (hR.g.below h))
  obtain ⟨q5, hq5⟩ : ∃ k, qs.take 17 = k := ⟨_, rfl⟩
  obtain ⟨w5, hw5⟩ : ∃ k, ws.take 17 = k := ⟨_, rfl⟩
  have HU5 : Hid (UQ q5) := Lib.hid (by rw [← hq5]; exact take_uq hR.qu 17)
  have HW5 : Hid (∀ x ∈ w5, x.2.1 < 2 ^ 64) := Lib.hid (by rw [← hw5]; exact take_wu hR.wu 17)
  unfold Short at HSh
  rw [hq5, hw5] at HSh
  obtain ⟨K0, GB⟩ := box1 w 30 #[.slice A n c, .slice A' n' c', .slice A2 n2 c2]
  clear hR hq5 hw5
  go_enter Try.func7, Try.ntmps7
  go_upto_region 1 with fail
  obtain ⟨X, hX⟩ : ∃ X, w.alloc (.cells #[.slice A n c, .slice A' n' c', .slice A2 n2 c2] 30) = X := ⟨_, rfl⟩
  rw [hX] at K0 GB ⊢
  clear hX
  have HWk := Lib.hid (wakes_any X)
  go_wp2_with fail
  refine HWk.out.mono ?_
  rintro e w1 ⟨rfl, h9⟩
  replace K0 := K0.below h9 K0.lt
  replace GB := GB.trans (h9.mono GB.size)
  clear h9
  have z0 := K0.cell 0
  have z1 := K0.cell 1
  have z2 := K0.cell 2
  go_wp2_with fail
  refine (HSh.out _ GB).mono ?_
  rintro e w2 ⟨B1, m1, d1, B2, m2, d2, B3, m3, d3, G, rfl, own1, own2, hGO, _, hgl, hm1, hm2, hm3, h9⟩
  replace GB := GB.trans (h9.mono GB.size)
  clear h9 HSh HWk K0 z0 z1 z2
  have K3 := Blk.new w2 30 #[.slice B1 m1 d1, .slice B2 m2 d2, .slice B3 m3 d3]
  have HQ := Lib.hid (qr_own own1 (by omega) HU5.out)
  have HW := Lib.hid (wt_own own2 (by omega) HW5.out)
  have HGW := Lib.hid (gw_own hGO hm3 hgl)
  have HGF : Hid (0 < m3 → ∃ g, B3 = some ⟨g, 0, none⟩) := Lib.hid (fun h0 => by
    rcases hGO.row.2 with ⟨_, h1⟩ | ⟨g, cap, cur, hv, _⟩
    · omega
    · injection hv with hv; exact ⟨g, hv⟩)
  have HMD := Lib.hid (own_nc hGO.row)
  have GY := (Below.refl w2.heap.size w2).alloc (Nat.le_refl _) (.cells #[.slice B1 m1 d1, .slice B2 m2 d2, .slice B3 m3 d3] 30)
  have HGB := Lib.hid GB
  have hgz : w2.heap.size < (w2.alloc (.cells #[.slice B1 m1 d1, .slice B2 m2 d2, .slice B3 m3 d3] 30)).heap.size := by simp
  clear own1 own2 hGO hgl GB
  go_upto_region 4 with fail
  obtain ⟨Y, hY⟩ : ∃ Y, w2.alloc (.cells #[.slice B1 m1 d1, .slice B2 m2 d2, .slice B3 m3 d3] 30) = Y := ⟨_, rfl⟩
  obtain ⟨g3, hg3⟩ : ∃ g, w2.heap.size = g := ⟨_, rfl⟩
  rw [hY] at K3 GY hgz ⊢
  rw [hg3] at K3 hgz ⊢
  have HG3 := Lib.hid hg3
  clear hY hg3
  obtain ⟨r, hr⟩ : ∃ r, chkO q5 w5 (gsI G) = r := ⟨_, rfl⟩
  obtain ⟨R0, hR0⟩ : ∃ R, entR q5 w5 (gsI G) = R := ⟨_, rfl⟩
  have HEn := Lib.hid (entities_any B1 m1 d1 q5 B2 m2 d2 w5 B3 m3 d3 G Y (HQ.out.below GY) (HW.out.below GY) (HGW.out.below GY))
  unfold EntAny at HEn
  rw [hr, hR0] at HEn
  have z0 := K3.cell 0
  have z1 := K3.cell 1
  have z2 := K3.cell 2
  go_wp2_with fail
  refine HEn.out.mono ?_
  rintro e w3 ⟨A9, n9, c9, E, rfl, hES, hE, hn9, h9⟩
  replace K3 := K3.below h9 K3.lt
  replace GY := GY.trans (h9.mono GY.size)
  have HES := Lib.hid hES
  have HE := Lib.hid hE
  have HN9 := Lib.hid hn9
  have HYZ := Lib.hid hgz
  clear h9 z0 z1 z2 hES hE hn9 HEn hgz
  have z2 := K3.cell 2
  by_cases h0 : m3 = 0
  · subst h0
    have HP := Lib.hid (List.Perm.refl (gsI G))
    clear z2
    have HEn2 := Lib.hid (entities_any B1 m1 d1 q5 B2 m2 d2 w5 B3 0 d3 G w3 (HQ.out.below GY) (HW.out.below GY) (HGW.out.below GY))
    unfold EntAny at HEn2
    rw [chk_perm q5 w5 HP.out, entR_perm HU5.out HP.out, hr, hR0] at HEn2
    have z0 := K3.cell 0
    have z1 := K3.cell 1
    have z2 := K3.cell 2
    have vr : (r != r) = false := by simp
    go_wp2_with fail
    refine HEn2.out.mono ?_
    rintro e V5 ⟨A10, n10, c10, E2, rfl, hES2, hE2, _, h9⟩
    have hn : n10 = n9 := by
      have h1 := HES.out.count
      have h2 := hES2.count
      rw [HE.out] at h1
      rw [hE2] at h2
      omega
    subst hn
    replace HGB := Lib.hid (HGB.out.trans ((GY.trans (h9.mono GY.size)).mono HGB.out.size))
    have HQ1 := Lib.hid ((HES.out.below h9).eqq HU5.out (HE.out.trans hR0.symm) HN9.out)
    have HQ2 := Lib.hid (hES2.eqq HU5.out (hE2.trans hR0.symm) HN9.out)
    have HEE := Lib.hid (show E.map et = E2.map et from HE.out.trans hE2.symm)
    have HCn := Lib.hid (fun x (hx : x ∈ E.map et) => (entR_facts (qs := q5) (ws := w5) (gs := gsI G) HU5.out).1 x (by rw [hR0, ← HE.out]; exact hx))
    have hn16 := HN9.out
    have HMl := Lib.hid (fun x (hx : x ∈ E.map et) => entR_mem_len (qs := q5) (ws := w5) (gs := gsI G) HU5.out (x := x) (by rw [hR0, ← HE.out]; exact hx))
    clear h9 z0 z1 z2 vr hES2 hE2 HEn2 K3 GY HQ HW HGW HP HES HE hR0 hr HN9
    go_wp2_with fail
    go_loopw [78] (fun iv wr => ∃ k : Nat, k ≤ n10 ∧ iv = .int .i64 (k : Int) ∧ Hid (Below V5.heap.size V5 wr)) (fun iv _ => n10 - (intOf iv).toNat)
    case atStart => exact ⟨0, by omega, rfl, Lib.hid (Below.refl _ _)⟩
    case round =>
      obtain ⟨k, hk, rfl, HB⟩ := hrel
      by_cases hlt : k < n10
      · obtain ⟨⟨⟨A1, n1, c1, is⟩, ⟨h, l, x⟩, o, f⟩, hx⟩ := elem_at (l := E) (k := k) (by rw [HQ1.out.len]; exact hlt)
        obtain ⟨⟨⟨A2, n2, c2', is2⟩, ⟨h2, l2, x2⟩, o2, f2⟩, hy⟩ := elem_at (l := E2) (k := k) (by rw [HQ2.out.len]; exact hlt)
        have hxe : (E.map et)[k]? = some (is, (h, l, x), o, f) := by rw [List.getElem?_map, hx]; rfl
        have hye : (E2.map et)[k]? = some (is2, (h2, l2, x2), o2, f2) := by rw [List.getElem?_map, hy]; rfl
        have hq := hxe
        rw [HEE.out, hye] at hq
        obtain ⟨rfl, ⟨rfl, rfl, rfl⟩, rfl, rfl⟩ : is2 = is ∧ (h2 = h ∧ l2 = l ∧ x2 = x) ∧ o2 = o ∧ f2 = f := by
          have := Option.some.inj hq
          simp only [Prod.mk.injEq] at this
          exact this
        obtain ⟨hcan, u1, u2, u3⟩ := HCn.out _ (List.mem_of_getElem? hxe)
        have hm1 := HQ1.out.mem _ (List.mem_of_getElem? hx)
        have hm2 := HQ2.out.mem _ (List.mem_of_getElem? hy)
        have hl1 : is2.length = n1 := HQ1.out.len_mem (List.mem_of_getElem? hx)
        have hl2 : is2.length = n2 := HQ2.out.len_mem (List.mem_of_getElem? hy)
        have hp1 := can_pos hcan hl1
        have hp2 := can_pos hcan hl2
        have HLk := Lib.hid (fun (u : World) (hu : Below V5.heap.size V5 u) => like_any A1 n1 c1 h2 l2 x2 o2 f2 is2 A2 n2 c2' h2 l2 x2 o2 f2 is2 u u1 u2 u3 u1 u2 u3 ((hm1.below hu).more hu.size) ((hm2.below hu).more hu.size) hp1 hp2)
        rw [like_self] at HLk
        unfold agE at HLk
        have hlen : n1 ≤ 1000 := by have := HMl.out _ (List.mem_of_getElem? hxe); simp only at this; omega
        obtain rfl : n2 = n1 := hl2.symm.trans hl1
        have HEq := Lib.hid (fun (u : World) (hu : Below V5.heap.size V5 u) => iequal_any A1 n2 c1 is2 A2 c2' u ⟨(hm1.below hu).more hu.size, hlen⟩ ⟨(hm2.below hu).more hu.size, hlen⟩)
        obtain ⟨ad, rfl, _, _⟩ := HQ1.out.at_ hx
        obtain ⟨ae, rfl, _, _⟩ := HQ2.out.at_ hy
        have HF1 : Hid (∀ u, Below V5.heap.size V5 u → u.cell? (ad.add (k * 6)) = some (.slice A1 n2 c1) ∧ u.cell? ⟨(ad.add (k * 6)).block, (ad.add (k * 6)).off + 1, none⟩ = some (.int .u64 (h2 : Int)) ∧ u.cell? ⟨(ad.add (k * 6)).block, (ad.add (k * 6)).off + 2, none⟩ = some (.int .u64 (l2 : Int)) ∧ u.cell? ⟨(ad.add (k * 6)).block, (ad.add (k * 6)).off + 3, none⟩ = some (.int .u64 (x2 : Int)) ∧ u.cell? ⟨(ad.add (k * 6)).block, (ad.add (k * 6)).off + 4, none⟩ = some (.int .u64 (o2 : Int)) ∧ u.cell? ⟨(ad.add (k * 6)).block, (ad.add (k * 6)).off + 5, none⟩ = some (.bool f2)) := Lib.hid (fun u hu => by
          obtain ⟨ad2, e2, _, b⟩ := (HQ1.out.below hu).at_ hx
          obtain rfl : ad = ad2 := Option.some.inj e2
          exact b)
        have HF2 : Hid (∀ u, Below V5.heap.size V5 u → u.cell? (ae.add (k * 6)) = some (.slice A2 n2 c2') ∧ u.cell? ⟨(ae.add (k * 6)).block, (ae.add (k * 6)).off + 1, none⟩ = some (.int .u64 (h2 : Int)) ∧ u.cell? ⟨(ae.add (k * 6)).block, (ae.add (k * 6)).off + 2, none⟩ = some (.int .u64 (l2 : Int)) ∧ u.cell? ⟨(ae.add (k * 6)).block, (ae.add (k * 6)).off + 3, none⟩ = some (.int .u64 (x2 : Int)) ∧ u.cell? ⟨(ae.add (k * 6)).block, (ae.add (k * 6)).off + 4, none⟩ = some (.int .u64 (o2 : Int)) ∧ u.cell? ⟨(ae.add (k * 6)).block, (ae.add (k * 6)).off + 5, none⟩ = some (.bool f2)) := Lib.hid (fun u hu => by
          obtain ⟨ad2, e2, _, b⟩ := (HQ2.out.below hu).at_ hy
          obtain rfl : ae = ad2 := Option.some.inj e2
          exact b)
        have i1 : (0 : Int) ≤ (k : Int) := by omega
        have i2 : (k : Int) < (n10 : Int) := by omega
        have BW := HB.out.drew
        clear hx hy hxe hye hq hcan u1 u2 u3 hm1 hm2 hl1 hl2 hp1 hp2 hlen
        go_upto_region 16 with fail
        refine wp_region_held_drew (S := fun u => Below V5.heap.size V5 u) (by kernel_rfl) BW (fun hS => ?_)
        clear BW
        generalize World.drew wr = Y2 at hS ⊢
        refine wpAnyH_take (i := 0) (v := .slice (some ad) n10 c9) rfl (by kernel_rfl) (by kernel_rfl) (by kernel_rfl) (fun _ _ _ h => h) (Or.inl ⟨by kernel_rfl, fun u hSw => (by go_simp)⟩) hS ?_
        change wpAnyH _ _ _ _ _ _ _ (Act.put _ (some 81) _) _
        simp only [Act.put]
        try simp only [List.setIfInBounds_toArray, List.set_cons_zero, List.set_cons_succ]
        refine wpAnyH_take (i := 1) (v := .int .i64 (k : Int)) rfl (by kernel_rfl) (by kernel_rfl) (by kernel_rfl) (fun _ _ _ h => h) (Or.inl ⟨by kernel_rfl, fun u hSw => (by go_simp)⟩) hS ?_
        change wpAnyH _ _ _ _ _ _ _ (Act.put _ (some 82) _) _
        simp only [Act.put]
        try simp only [List.setIfInBounds_toArray, List.set_cons_zero, List.set_cons_succ]
        refine wpAnyH_take (i := 2) (v := .pointer (some (ad.add (k * 6)))) rfl (by kernel_rfl) (by kernel_rfl) (by kernel_rfl) (fun _ _ _ h => h) (Or.inl ⟨by kernel_rfl, fun u hSw => (by go_simp)⟩) hS ?_
        change wpAnyH _ _ _ _ _ _ _ (Act.put _ (some 83) _) _
        simp only [Act.put]
        try simp only [List.setIfInBounds_toArray, List.set_cons_zero, List.set_cons_succ]
        refine wpAnyH_take (i := 3) (v := .agg #[.slice A1 n2 c1, .int .u64 (h2 : Int), .int .u64 (l2 : Int), .int .u64 (x2 : Int), .int .u64 (o2 : Int), .bool f2]) rfl (by kernel_rfl) (by kernel_rfl) (by kernel_rfl) (fun _ _ _ h => h) (Or.inl ⟨by kernel_rfl, fun u hSw => (by obtain ⟨q0, q1, q2, q3, q4, q5⟩ := HF1.out u hSw; go_simp)⟩) hS ?_
        change wpAnyH _ _ _ _ _ _ _ (Act.put _ (some 84) _) _
        simp only [Act.put]
        try simp only [List.setIfInBounds_toArray, List.set_cons_zero, List.set_cons_succ]
        refine wpAnyH_take (i := 4) (v := .slice (some ae) n10 c10) rfl (by kernel_rfl) (by kernel_rfl) (by kernel_rfl) (fun _ _ _ h => h) (Or.inl ⟨by kernel_rfl, fun u hSw => (by go_simp)⟩) hS ?_
        change wpAnyH _ _ _ _ _ _ _ (Act.put _ (some 85) _) _
        simp only [Act.put]
        try simp only [List.setIfInBounds_toArray, List.set_cons_zero, List.set_cons_succ]
        refine wpAnyH_take (i := 5) (v := .int .i64 (k : Int)) rfl (by kernel_rfl) (by kernel_rfl) (by kernel_rfl) (fun _ _ _ h => h) (Or.inl ⟨by kernel_rfl, fun u hSw => (by go_simp)⟩) hS ?_
        change wpAnyH _ _ _ _ _ _ _ (Act.put _ (some 86) _) _
        simp only [Act.put]
        try simp only [List.setIfInBounds_toArray, List.set_cons_zero, List.set_cons_succ]
        refine wpAnyH_take (i := 6) (v := .pointer (some (ae.add (k * 6)))) rfl (by kernel_rfl) (by kernel_rfl) (by kernel_rfl) (fun _ _ _ h => h) (Or.inl ⟨by kernel_rfl, fun u hSw => (by go_simp)⟩) hS ?_
        change wpAnyH _ _ _ _ _ _ _ (Act.put _ (some 87) _) _
        simp only [Act.put]
        try simp only [List.setIfInBounds_toArray, List.set_cons_zero, List.set_cons_succ]
        refine wpAnyH_take (i := 7) (v := .agg #[.slice A2 n2 c2', .int .u64 (h2 : Int), .int .u64 (l2 : Int), .int .u64 (x2 : Int), .int .u64 (o2 : Int), .bool f2]) rfl (by kernel_rfl) (by kernel_rfl) (by kernel_rfl) (fun _ _ _ h => h) (Or.inl ⟨by kernel_rfl, fun u hSw => (by obtain ⟨q0, q1, q2, q3, q4, q5⟩ := HF2.out u hSw; go_simp)⟩) hS ?_
        change wpAnyH _ _ _ _ _ _ _ (Act.put _ (some 88) _) _
        simp only [Act.put]
        try simp only [List.setIfInBounds_toArray, List.set_cons_zero, List.set_cons_succ]
        refine wpAnyH_ready (rs := [8]) (by kernel_rfl) (by simp) ?_
        refine AllReadyH.cons rfl (fun K hK => ?_) AllReadyH.nil
        go_simp
        refine (HLk.out _ hS).mono ?_
        rintro e1 w1 ⟨rfl, h9⟩
        have S1 : Below V5.heap.size V5 w1 := hS.trans (h9.mono hS.size)
        clear h9 hS
        refine hK.out _ _ S1 (fun hS => ?_)
        clear hK K S1
        refine wpAnyH_take (i := 9) (v := .bool false) rfl (by kernel_rfl) (by kernel_rfl) (by kernel_rfl) (fun _ _ _ h => h) (Or.inl ⟨by kernel_rfl, fun u hSw => (by go_simp)⟩) hS ?_
        change wpAnyH _ _ _ _ _ _ _ (Act.put _ (some 90) _) _
        simp only [Act.put]
        try simp only [List.setIfInBounds_toArray, List.set_cons_zero, List.set_cons_succ]
        refine wpAnyH_take (i := 10) (v := .bool false) rfl (by kernel_rfl) (by kernel_rfl) (by kernel_rfl) (fun _ _ _ h => h) (Or.inl ⟨by kernel_rfl, fun u hSw => (by go_simp)⟩) hS ?_
        change wpAnyH _ _ _ _ _ _ _ (Act.put _ (some 91) _) _
        simp only [Act.put]
        try simp only [List.setIfInBounds_toArray, List.set_cons_zero, List.set_cons_succ]
        refine wpAnyH_take (i := 11) (v := .slice (some ad) n10 c9) rfl (by kernel_rfl) (by kernel_rfl) (by kernel_rfl) (fun _ _ _ h => h) (Or.inl ⟨by kernel_rfl, fun u hSw => (by go_simp)⟩) hS ?_
        change wpAnyH _ _ _ _ _ _ _ (Act.put _ (some 92) _) _
        simp only [Act.put]
        try simp only [List.setIfInBounds_toArray, List.set_cons_zero, List.set_cons_succ]
        refine wpAnyH_take (i := 12) (v := .int .i64 (k : Int)) rfl (by kernel_rfl) (by kernel_rfl) (by kernel_rfl) (fun _ _ _ h => h) (Or.inl ⟨by kernel_rfl, fun u hSw => (by go_simp)⟩) hS ?_
        change wpAnyH _ _ _ _ _ _ _ (Act.put _ (some 93) _) _
        simp only [Act.put]
        try simp only [List.setIfInBounds_toArray, List.set_cons_zero, List.set_cons_succ]
        refine wpAnyH_take (i := 13) (v := .pointer (some (ad.add (k * 6)))) rfl (by kernel_rfl) (by kernel_rfl) (by kernel_rfl) (fun _ _ _ h => h) (Or.inl ⟨by kernel_rfl, fun u hSw => (by go_simp)⟩) hS ?_
        change wpAnyH _ _ _ _ _ _ _ (Act.put _ (some 94) _) _
        simp only [Act.put]
        try simp only [List.setIfInBounds_toArray, List.set_cons_zero, List.set_cons_succ]
        refine wpAnyH_take (i := 14) (v := .pointer (some (ad.add (k * 6)))) rfl (by kernel_rfl) (by kernel_rfl) (by kernel_rfl) (fun _ _ _ h => h) (Or.inl ⟨by kernel_rfl, fun u hSw => (by go_simp)⟩) hS ?_
        change wpAnyH _ _ _ _ _ _ _ (Act.put _ (some 95) _) _
        simp only [Act.put]
        try simp only [List.setIfInBounds_toArray, List.set_cons_zero, List.set_cons_succ]
        refine wpAnyH_take (i := 15) (v := .slice A1 n2 c1) rfl (by kernel_rfl) (by kernel_rfl) (by kernel_rfl) (fun _ _ _ h => h) (Or.inl ⟨by kernel_rfl, fun u hSw => (by obtain ⟨q0, q1, q2, q3, q4, q5⟩ := HF1.out u hSw; go_simp)⟩) hS ?_
        change wpAnyH _ _ _ _ _ _ _ (Act.put _ (some 96) _) _
        simp only [Act.put]
        try simp only [List.setIfInBounds_toArray, List.set_cons_zero, List.set_cons_succ]
        refine wpAnyH_take (i := 16) (v := .slice (some ae) n10 c10) rfl (by kernel_rfl) (by kernel_rfl) (by kernel_rfl) (fun _ _ _ h => h) (Or.inl ⟨by kernel_rfl, fun u hSw => (by go_simp)⟩) hS ?_
        change wpAnyH _ _ _ _ _ _ _ (Act.put _ (some 97) _) _
        simp only [Act.put]
        try simp only [List.setIfInBounds_toArray, List.set_cons_zero, List.set_cons_succ]
        refine wpAnyH_take (i := 17) (v := .int .i64 (k : Int)) rfl (by kernel_rfl) (by kernel_rfl) (by kernel_rfl) (fun _ _ _ h => h) (Or.inl ⟨by kernel_rfl, fun u hSw => (by go_simp)⟩) hS ?_
        change wpAnyH _ _ _ _ _ _ _ (Act.put _ (some 98) _) _
        simp only [Act.put]
        try simp only [List.setIfInBounds_toArray, List.set_cons_zero, List.set_cons_succ]
        refine wpAnyH_take (i := 18) (v := .pointer (some (ae.add (k * 6)))) rfl (by kernel_rfl) (by kernel_rfl) (by kernel_rfl) (fun _ _ _ h => h) (Or.inl ⟨by kernel_rfl, fun u hSw => (by go_simp)⟩) hS ?_
        change wpAnyH _ _ _ _ _ _ _ (Act.put _ (some 99) _) _
        simp only [Act.put]
        try simp only [List.setIfInBounds_toArray, List.set_cons_zero, List.set_cons_succ]
        refine wpAnyH_take (i := 19) (v := .pointer (some (ae.add (k * 6)))) rfl (by kernel_rfl) (by kernel_rfl) (by kernel_rfl) (fun _ _ _ h => h) (Or.inl ⟨by kernel_rfl, fun u hSw => (by go_simp)⟩) hS ?_
        change wpAnyH _ _ _ _ _ _ _ (Act.put _ (some 100) _) _
        simp only [Act.put]
        try simp only [List.setIfInBounds_toArray, List.set_cons_zero, List.set_cons_succ]
        refine wpAnyH_take (i := 20) (v := .slice A2 n2 c2') rfl (by kernel_rfl) (by kernel_rfl) (by kernel_rfl) (fun _ _ _ h => h) (Or.inl ⟨by kernel_rfl, fun u hSw => (by obtain ⟨q0, q1, q2, q3, q4, q5⟩ := HF2.out u hSw; go_simp)⟩) hS ?_
        change wpAnyH _ _ _ _ _ _ _ (Act.put _ (some 101) _) _
        simp only [Act.put]
        try simp only [List.setIfInBounds_toArray, List.set_cons_zero, List.set_cons_succ]
        refine wpAnyH_ready (rs := [21]) (by kernel_rfl) (by simp) ?_
        refine AllReadyH.cons rfl (fun K hK => ?_) AllReadyH.nil
        go_simp
        refine (HEq.out _ hS).mono ?_
        rintro e2 w2 ⟨rfl, h9⟩
        have S2 : Below V5.heap.size V5 w2 := hS.trans (h9.mono hS.size)
        clear h9 hS
        refine hK.out _ _ S2 (fun hS => ?_)
        clear hK K S2
        refine wpAnyH_take (i := 22) (v := .bool false) rfl (by kernel_rfl) (by kernel_rfl) (by kernel_rfl) (fun _ _ _ h => h) (Or.inl ⟨by kernel_rfl, fun u hSw => (by go_simp)⟩) hS ?_
        change wpAnyH _ _ _ _ _ _ _ (Act.put _ (some 103) _) _
        simp only [Act.put]
        try simp only [List.setIfInBounds_toArray, List.set_cons_zero, List.set_cons_succ]
        refine wpAnyH_take (i := 23) (v := .bool false) rfl (by kernel_rfl) (by kernel_rfl) (by kernel_rfl) (fun _ _ _ h => h) (Or.inl ⟨by kernel_rfl, fun u hSw => (by go_simp)⟩) hS ?_
        change wpAnyH _ _ _ _ _ _ _ (Act.put _ (some 104) _) _
        simp only [Act.put]
        try simp only [List.setIfInBounds_toArray, List.set_cons_zero, List.set_cons_succ]
        refine wpAnyH_done (by kernel_rfl) ?_ _
        have HB8 := Lib.hid hS
        clear hS
        go_wp2_with fail
        go_roundw
        case rel => exact ⟨k + 1, by omega, by go_num, HB8⟩
        case measure => simp [intOf] <;> omega
      · obtain rfl : k = n10 := by omega
        have HBe := Lib.hid (HGB.out.trans (HB.out.mono HGB.out.size))
        go_wp2_with fail
        go_ret
        exact ⟨rfl, HBe.out⟩
  · obtain ⟨gg, hgg⟩ := HGF.out (by omega)
    obtain ⟨ad, had⟩ : ∃ ad : Addr, (⟨gg, 0, none⟩ : Addr) = ad := ⟨_, rfl⟩
    rw [had] at hgg
    clear had
    subst hgg
    obtain ⟨kk, hkk, hk9⟩ : ∃ kk : Nat, kk < m3 ∧ wrap64 ((IntKind.u64.wrap t).tmod (m3 : Int)) = (kk : Int) := turn_at t (by omega) hm3
    have hkl := Lib.hid hkk
    have c0 : decide ((0 : Int) < (m3 : Int)) = true := decide_eq_true (by omega)
    have c00 : (0 : Int) < (m3 : Int) := by omega
    have c1 : ¬ (m3 : Int) = 0 := by omega
    have c2 : ((m3 : Int) == 0) = false := by simp; omega
    have k1 : (0 : Int) ≤ (kk : Int) := by omega
    have k2 : (kk : Int) ≤ (m3 : Int) := by omega
    have hmd := HMD.out
    have k3 : ¬ d3 < kk := by omega
    have k4 : ¬ d3 = kk := by omega
    go_upto_region 8 with fail
    rw [hk9]
    clear z2 hk9
    go_cut [] (fun X => ∃ (g8 c8 : Nat) (w10 : World), X = w10.setCell ⟨g3, 2, none⟩ (.slice (some ⟨g8, 0, none⟩) m3 c8) ∧ w10.ownsRow w3.heap.size 40 1 (.slice (some ⟨g8, 0, none⟩) m3 c8) m3 (flat gv (G.drop kk ++ G.take kk)) ∧ Below w3.heap.size w3 w10 ∧ w3.heap.size ≤ g8)
    case first =>
      refine wp_region_held_drew (S := fun _ => True) (by kernel_rfl) trivial (fun hS => ?_)
      have BV := (Below.refl w3.heap.size w3).drew
      have hVz : w3.drew.heap.size = w3.heap.size := rfl
      have HRd := Lib.hid (show Reads w3.drew w3.drew.heap.size 1 (some ad) m3 (flat gv G) from (HGW.out.below GY.drew).row)
      have KR : Blk w3.drew g3 30 #[.slice B1 m1 d1, .slice B2 m2 d2, .slice (some ad) m3 d3] := K3
      have HV3 := Lib.hid (And.intro BV hVz)
      clear BV hVz K3 HES
      generalize World.drew w3 = V at HRd KR HV3 ⊢
      have KV0 := KR
      replace KR := KR.alloc (.cells #[] 40)
      refine wpAnyH_take (i := 1) (v := .pointer (some ⟨g3, 2, none⟩)) rfl (by kernel_rfl) (by kernel_rfl) (by kernel_rfl) (fun _ _ _ h => h) (Or.inl ⟨by kernel_rfl, fun u hSw => (by go_simp)⟩) hS ?_
      change wpAnyH _ _ _ _ _ _ _ (Act.put _ (some 39) _) _
      simp only [Act.put]
      try simp only [List.setIfInBounds_toArray, List.set_cons_zero, List.set_cons_succ]
      refine wpAnyH_take (i := 3) (v := .int .i64 (kk : Int)) rfl (by kernel_rfl) (by kernel_rfl) (by kernel_rfl) (fun _ _ _ h => h) (Or.inl ⟨by kernel_rfl, fun u hSw => (by go_simp)⟩) hS ?_
      change wpAnyH _ _ _ _ _ _ _ (Act.put _ (some 41) _) _
      simp only [Act.put]
      try simp only [List.setIfInBounds_toArray, List.set_cons_zero, List.set_cons_succ]
      refine wpAnyH_take (i := 6) (v := .pointer (some ⟨g3, 2, none⟩)) rfl (by kernel_rfl) (by kernel_rfl) (by kernel_rfl) (fun _ _ _ h => h) (Or.inl ⟨by kernel_rfl, fun u hSw => (by go_simp)⟩) hS ?_
      change wpAnyH _ _ _ _ _ _ _ (Act.put _ (some 44) _) _
      simp only [Act.put]
      try simp only [List.setIfInBounds_toArray, List.set_cons_zero, List.set_cons_succ]
      refine wpAnyH_take (i := 8) (v := .int .i64 (kk : Int)) rfl (by kernel_rfl) (by kernel_rfl) (by kernel_rfl) (fun _ _ _ h => h) (Or.inl ⟨by kernel_rfl, fun u hSw => (by go_simp)⟩) hS ?_
      change wpAnyH _ _ _ _ _ _ _ (Act.put _ (some 46) _) _
      simp only [Act.put]
      try simp only [List.setIfInBounds_toArray, List.set_cons_zero, List.set_cons_succ]
      refine wpAnyH_ready (rs := [0, 2, 7]) (by kernel_rfl) (by simp) ?_
      refine AllReadyH.cons rfl (fun K hK => ?_) (AllReadyH.cons rfl (fun K hK => ?_) (AllReadyH.cons rfl (fun K hK => ?_) (AllReadyH.nil)))
      · skip
        go_simp
        refine hK.out _ _ trivial (fun hS => ?_)
        clear hK K
        refine wpAnyH_ready (rs := [2, 7]) (by kernel_rfl) (by simp) ?_
        refine AllReadyH.cons rfl (fun K hK => ?_) (AllReadyH.cons rfl (fun K hK => ?_) (AllReadyH.nil))
        · skip
          have q := KR.cell 2
          go_simp
          clear q
          refine hK.out _ _ trivial (fun hS => ?_)
          clear hK K
          refine wpAnyH_take (i := 4) (v := .slice (some (ad.add kk)) (m3 - kk) (d3 - kk)) rfl (by kernel_rfl) (by kernel_rfl) (by kernel_rfl) (fun _ _ _ h => h) (Or.inl ⟨by kernel_rfl, fun u hSw => (by go_simp)⟩) hS ?_
          change wpAnyH _ _ _ _ _ _ _ (Act.put _ (some 42) _) _
          simp only [Act.put]
          try simp only [List.setIfInBounds_toArray, List.set_cons_zero, List.set_cons_succ]
          refine wpAnyH_ready (rs := [5, 7]) (by kernel_rfl) (by simp) ?_
          refine AllReadyH.cons rfl (fun K hK => ?_) (AllReadyH.cons rfl (fun K hK => ?_) (AllReadyH.nil))
          · skip
            refine step_append_any _ rfl (.tmp 38) (.tmp 42) 28 rfl V.heap.size 40 ji (.slice none 0 0) 1 24 Try.underlying28 hi1 hy0 hy1 hy2 rfl (by decide) (.slice (some ⟨V.heap.size, 0, none⟩) 0 0) 0 [] rfl (by simpa using World.ownsRow_made V #[] 0 (Nat.le_refl _) (by simp [maxLen]) (by simp)) _ (some (ad.add kk)) (m3 - kk) (d3 - kk) (flat gv (G.drop kk)) rfl ((reads_drop HRd.out (Nat.le_of_lt hkl.out)).alloc (Nat.le_refl _) (.cells #[] 40)) (gv_ones _) (by simp only [maxLen]; omega) (by omega) (by simp) ?_
            intro v9 w9 own9 grow9 _
            rw [List.nil_append, Nat.zero_add] at own9
            have B9 : Below V.heap.size V w9 := ((Below.refl V.heap.size V).alloc (Nat.le_refl _) (.cells #[] 40)).grown grow9 (by simp) (fun g hg => by have h : V.heap.size = g := Option.some.inj hg; rw [← h]; exact Nat.le_refl _)
            obtain ⟨A7, c7, rfl, hc7, _⟩ := own_reads own9
            have KW : Blk w9 g3 30 #[.slice B1 m1 d1, .slice B2 m2 d2, .slice (some ad) m3 d3] := KV0.below B9 KV0.lt
            have HO9 := Lib.hid (And.intro own9 (And.intro B9 (cut_reads length_gv ((HRd.out.below B9).more B9.size) kk)))
            clear own9 grow9 B9 KR
            refine hK.out _ _ trivial (fun hS => ?_)
            clear hK K
            refine wpAnyH_ready (rs := [7]) (by kernel_rfl) (by simp) ?_
            refine AllReadyH.cons rfl (fun K hK => ?_) AllReadyH.nil
            have q := KW.cell 2
            go_simp
            clear q
            refine hK.out _ _ trivial (fun hS => ?_)
            clear hK K
            refine wpAnyH_take (i := 9) (v := .slice (some ad) kk d3) rfl (by kernel_rfl) (by kernel_rfl) (by kernel_rfl) (fun _ _ _ h => h) (Or.inl ⟨by kernel_rfl, fun u hSw => (by go_simp)⟩) hS ?_
            change wpAnyH _ _ _ _ _ _ _ (Act.put _ (some 47) _) _
            simp only [Act.put]
            try simp only [List.setIfInBounds_toArray, List.set_cons_zero, List.set_cons_succ]
            refine wpAnyH_ready (rs := [10]) (by kernel_rfl) (by simp) ?_
            refine AllReadyH.cons rfl (fun K hK => ?_) AllReadyH.nil
            refine step_append_any _ rfl (.tmp 43) (.tmp 47) 28 rfl V.heap.size 40 ji (.slice none 0 0) 1 24 Try.underlying28 hi1 hy0 hy1 hy2 rfl (by decide) (.slice A7 (m3 - kk) c7) (m3 - kk) (flat gv (G.drop kk)) rfl HO9.out.1 _ (some ad) kk d3 (flat gv (G.take kk)) rfl (by have q := HO9.out.2.2; rwa [Nat.min_eq_right (Nat.le_of_lt hkl.out)] at q) (gv_ones _) (by have := hkl.out; simp only [maxLen]; omega) (by have := hkl.out; omega) HO9.out.2.1.size ?_
            intro v10 w10 own10 grow10 _
            rw [← flat_append, show m3 - kk + kk = m3 from by have := hkl.out; omega] at own10
            have B10 : Below V.heap.size V w10 := HO9.out.2.1.grown grow10 HO9.out.2.1.size (fun g hg => (HO9.out.1.lt g hg).1)
            obtain ⟨g8, c8, rfl, hg8⟩ := own_form own10 (by omega)
            have S10 : Blk w10 g3 30 #[.slice B1 m1 d1, .slice B2 m2 d2, .slice (some ad) m3 d3] := KV0.below B10 KV0.lt
            have f2 := S10.frozen 2
            have e2 := S10.cell 2
            have HO := Lib.hid (And.intro own10 (And.intro B10 hg8))
            clear own10 grow10 B10 HO9 hg8 S10 KW
            refine hK.out _ _ trivial (fun hS => ?_)
            clear hK K
            refine wpAnyH_take (i := 11) (v := .pointer (some ⟨g3, 2, none⟩)) rfl (by kernel_rfl) (by kernel_rfl) (by kernel_rfl) (fun _ _ _ h => h) (Or.inl ⟨by kernel_rfl, fun u hSw => (by go_simp)⟩) hS ?_
            change wpAnyH _ _ _ _ _ _ _ (Act.put _ (some 49) _) _
            simp only [Act.put]
            refine wpAnyH_ready (rs := [12]) (by kernel_rfl) (by simp) ?_
            refine AllReadyH.cons rfl (fun K hK => ?_) AllReadyH.nil
            go_simp
            refine hK.out _ _ trivial (fun hS => ?_)
            clear hK K
            refine wpAnyH_done (by kernel_rfl) ?_ _
            clear hS
            go_wp2_with fail
            go_meet
            have hz := HV3.out.2
            exact ⟨g8, c8, w10, rfl, by rw [← hz]; exact HO.out.1, HV3.out.1.trans (HO.out.2.1.mono (by omega)), by rw [← hz]; exact HO.out.2.2⟩
          · skip
            have q := KR.cell 2
            go_simp
            clear q
            refine hK.out _ _ trivial (fun hS => ?_)
            clear hK K
            refine wpAnyH_take (i := 9) (v := .slice (some ad) kk d3) rfl (by kernel_rfl) (by kernel_rfl) (by kernel_rfl) (fun _ _ _ h => h) (Or.inl ⟨by kernel_rfl, fun u hSw => (by go_simp)⟩) hS ?_
            change wpAnyH _ _ _ _ _ _ _ (Act.put _ (some 47) _) _
            simp only [Act.put]
            try simp only [List.setIfInBounds_toArray, List.set_cons_zero, List.set_cons_succ]
            refine wpAnyH_ready (rs := [5]) (by kernel_rfl) (by simp) ?_
            refine AllReadyH.cons rfl (fun K hK => ?_) AllReadyH.nil
            refine step_append_any _ rfl (.tmp 38) (.tmp 42) 28 rfl V.heap.size 40 ji (.slice none 0 0) 1 24 Try.underlying28 hi1 hy0 hy1 hy2 rfl (by decide) (.slice (some ⟨V.heap.size, 0, none⟩) 0 0) 0 [] rfl (by simpa using World.ownsRow_made V #[] 0 (Nat.le_refl _) (by simp [maxLen]) (by simp)) _ (some (ad.add kk)) (m3 - kk) (d3 - kk) (flat gv (G.drop kk)) rfl ((reads_drop HRd.out (Nat.le_of_lt hkl.out)).alloc (Nat.le_refl _) (.cells #[] 40)) (gv_ones _) (by simp only [maxLen]; omega) (by omega) (by simp) ?_
            intro v9 w9 own9 grow9 _
            rw [List.nil_append, Nat.zero_add] at own9
            have B9 : Below V.heap.size V w9 := ((Below.refl V.heap.size V).alloc (Nat.le_refl _) (.cells #[] 40)).grown grow9 (by simp) (fun g hg => by have h : V.heap.size = g := Option.some.inj hg; rw [← h]; exact Nat.le_refl _)
            obtain ⟨A7, c7, rfl, hc7, _⟩ := own_reads own9
            have KW : Blk w9 g3 30 #[.slice B1 m1 d1, .slice B2 m2 d2, .slice (some ad) m3 d3] := KV0.below B9 KV0.lt
            have HO9 := Lib.hid (And.intro own9 (And.intro B9 (cut_reads length_gv ((HRd.out.below B9).more B9.size) kk)))
            clear own9 grow9 B9 KR
            refine hK.out _ _ trivial (fun hS => ?_)
            clear hK K
            refine wpAnyH_ready (rs := [10]) (by kernel_rfl) (by simp) ?_
            refine AllReadyH.cons rfl (fun K hK => ?_) AllReadyH.nil
            refine step_append_any _ rfl (.tmp 43) (.tmp 47) 28 rfl V.heap.size 40 ji (.slice none 0 0) 1 24 Try.underlying28 hi1 hy0 hy1 hy2 rfl (by decide) (.slice A7 (m3 - kk) c7) (m3 - kk) (flat gv (G.drop kk)) rfl HO9.out.1 _ (some ad) kk d3 (flat gv (G.take kk)) rfl (by have q := HO9.out.2.2; rwa [Nat.min_eq_right (Nat.le_of_lt hkl.out)] at q) (gv_ones _) (by have := hkl.out; simp only [maxLen]; omega) (by have := hkl.out; omega) HO9.out.2.1.size ?_
            intro v10 w10 own10 grow10 _
            rw [← flat_append, show m3 - kk + kk = m3 from by have := hkl.out; omega] at own10
            have B10 : Below V.heap.size V w10 := HO9.out.2.1.grown grow10 HO9.out.2.1.size (fun g hg => (HO9.out.1.lt g hg).1)
            obtain ⟨g8, c8, rfl, hg8⟩ := own_form own10 (by omega)
            have S10 : Blk w10 g3 30 #[.slice B1 m1 d1, .slice B2 m2 d2, .slice (some ad) m3 d3] := KV0.below B10 KV0.lt
            have f2 := S10.frozen 2
            have e2 := S10.cell 2
            have HO := Lib.hid (And.intro own10 (And.intro B10 hg8))
            clear own10 grow10 B10 HO9 hg8 S10 KW
            refine hK.out _ _ trivial (fun hS => ?_)
            clear hK K
            refine wpAnyH_take (i := 11) (v := .pointer (some ⟨g3, 2, none⟩)) rfl (by kernel_rfl) (by kernel_rfl) (by kernel_rfl) (fun _ _ _ h => h) (Or.inl ⟨by kernel_rfl, fun u hSw => (by go_simp)⟩) hS ?_
            change wpAnyH _ _ _ _ _ _ _ (Act.put _ (some 49) _) _
            simp only [Act.put]
            refine wpAnyH_ready (rs := [12]) (by kernel_rfl) (by simp) ?_
            refine AllReadyH.cons rfl (fun K hK => ?_) AllReadyH.nil
            go_simp
            refine hK.out _ _ trivial (fun hS => ?_)
            clear hK K
            refine wpAnyH_done (by kernel_rfl) ?_ _
            clear hS
            go_wp2_with fail
            go_meet
            have hz := HV3.out.2
            exact ⟨g8, c8, w10, rfl, by rw [← hz]; exact HO.out.1, HV3.out.1.trans (HO.out.2.1.mono (by omega)), by rw [← hz]; exact HO.out.2.2⟩
        · skip
          have q := KR.cell 2
          go_simp
          clear q
          refine hK.out _ _ trivial (fun hS => ?_)
          clear hK K
          refine wpAnyH_take (i := 9) (v := .slice (some ad) kk d3) rfl (by kernel_rfl) (by kernel_rfl) (by kernel_rfl) (fun _ _ _ h => h) (Or.inl ⟨by kernel_rfl, fun u hSw => (by go_simp)⟩) hS ?_
          change wpAnyH _ _ _ _ _ _ _ (Act.put _ (some 47) _) _
          simp only [Act.put]
          try simp only [List.setIfInBounds_toArray, List.set_cons_zero, List.set_cons_succ]
          refine wpAnyH_ready (rs := [2]) (by kernel_rfl) (by simp) ?_
          refine AllReadyH.cons rfl (fun K hK => ?_) AllReadyH.nil
          have q := KR.cell 2
          go_simp
          clear q
          refine hK.out _ _ trivial (fun hS => ?_)
          clear hK K
          refine wpAnyH_take (i := 4) (v := .slice (some (ad.add kk)) (m3 - kk) (d3 - kk)) rfl (by kernel_rfl) (by kernel_rfl) (by kernel_rfl) (fun _ _ _ h => h) (Or.inl ⟨by kernel_rfl, fun u hSw => (by go_simp)⟩) hS ?_
          change wpAnyH _ _ _ _ _ _ _ (Act.put _ (some 42) _) _
          simp only [Act.put]
          try simp only [List.setIfInBounds_toArray, List.set_cons_zero, List.set_cons_succ]
          refine wpAnyH_ready (rs := [5]) (by kernel_rfl) (by simp) ?_
          refine AllReadyH.cons rfl (fun K hK => ?_) AllReadyH.nil
          refine step_append_any _ rfl (.tmp 38) (.tmp 42) 28 rfl V.heap.size 40 ji (.slice none 0 0) 1 24 Try.underlying28 hi1 hy0 hy1 hy2 rfl (by decide) (.slice (some ⟨V.heap.size, 0, none⟩) 0 0) 0 [] rfl (by simpa using World.ownsRow_made V #[] 0 (Nat.le_refl _) (by simp [maxLen]) (by simp)) _ (some (ad.add kk)) (m3 - kk) (d3 - kk) (flat gv (G.drop kk)) rfl ((reads_drop HRd.out (Nat.le_of_lt hkl.out)).alloc (Nat.le_refl _) (.cells #[] 40)) (gv_ones _) (by simp only [maxLen]; omega) (by omega) (by simp) ?_
          intro v9 w9 own9 grow9 _
          rw [List.nil_append, Nat.zero_add] at own9
          have B9 : Below V.heap.size V w9 := ((Below.refl V.heap.size V).alloc (Nat.le_refl _) (.cells #[] 40)).grown grow9 (by simp) (fun g hg => by have h : V.heap.size = g := Option.some.inj hg; rw [← h]; exact Nat.le_refl _)
          obtain ⟨A7, c7, rfl, hc7, _⟩ := own_reads own9
          have KW : Blk w9 g3 30 #[.slice B1 m1 d1, .slice B2 m2 d2, .slice (some ad) m3 d3] := KV0.below B9 KV0.lt
          have HO9 := Lib.hid (And.intro own9 (And.intro B9 (cut_reads length_gv ((HRd.out.below B9).more B9.size) kk)))
          clear own9 grow9 B9 KR
          refine hK.out _ _ trivial (fun hS => ?_)
          clear hK K
          refine wpAnyH_ready (rs := [10]) (by kernel_rfl) (by simp) ?_
          refine AllReadyH.cons rfl (fun K hK => ?_) AllReadyH.nil
          refine step_append_any _ rfl (.tmp 43) (.tmp 47) 28 rfl V.heap.size 40 ji (.slice none 0 0) 1 24 Try.underlying28 hi1 hy0 hy1 hy2 rfl (by decide) (.slice A7 (m3 - kk) c7) (m3 - kk) (flat gv (G.drop kk)) rfl HO9.out.1 _ (some ad) kk d3 (flat gv (G.take kk)) rfl (by have q := HO9.out.2.2; rwa [Nat.min_eq_right (Nat.le_of_lt hkl.out)] at q) (gv_ones _) (by have := hkl.out; simp only [maxLen]; omega) (by have := hkl.out; omega) HO9.out.2.1.size ?_
          intro v10 w10 own10 grow10 _
          rw [← flat_append, show m3 - kk + kk = m3 from by have := hkl.out; omega] at own10
          have B10 : Below V.heap.size V w10 := HO9.out.2.1.grown grow10 HO9.out.2.1.size (fun g hg => (HO9.out.1.lt g hg).1)
          obtain ⟨g8, c8, rfl, hg8⟩ := own_form own10 (by omega)
          have S10 : Blk w10 g3 30 #[.slice B1 m1 d1, .slice B2 m2 d2, .slice (some ad) m3 d3] := KV0.below B10 KV0.lt
          have f2 := S10.frozen 2
          have e2 := S10.cell 2
          have HO := Lib.hid (And.intro own10 (And.intro B10 hg8))
          clear own10 grow10 B10 HO9 hg8 S10 KW
          refine hK.out _ _ trivial (fun hS => ?_)
          clear hK K
          refine wpAnyH_take (i := 11) (v := .pointer (some ⟨g3, 2, none⟩)) rfl (by kernel_rfl) (by kernel_rfl) (by kernel_rfl) (fun _ _ _ h => h) (Or.inl ⟨by kernel_rfl, fun u hSw => (by go_simp)⟩) hS ?_
          change wpAnyH _ _ _ _ _ _ _ (Act.put _ (some 49) _) _
          simp only [Act.put]
          refine wpAnyH_ready (rs := [12]) (by kernel_rfl) (by simp) ?_
          refine AllReadyH.cons rfl (fun K hK => ?_) AllReadyH.nil
          go_simp
          refine hK.out _ _ trivial (fun hS => ?_)
          clear hK K
          refine wpAnyH_done (by kernel_rfl) ?_ _
          clear hS
          go_wp2_with fail
          go_meet
          have hz := HV3.out.2
          exact ⟨g8, c8, w10, rfl, by rw [← hz]; exact HO.out.1, HV3.out.1.trans (HO.out.2.1.mono (by omega)), by rw [← hz]; exact HO.out.2.2⟩
      · skip
        have q := KV0.cell 2
        go_simp
        clear q
        refine hK.out _ _ trivial (fun hS => ?_)
        clear hK K
        refine wpAnyH_take (i := 4) (v := .slice (some (ad.add kk)) (m3 - kk) (d3 - kk)) rfl (by kernel_rfl) (by kernel_rfl) (by kernel_rfl) (fun _ _ _ h => h) (Or.inl ⟨by kernel_rfl, fun u hSw => (by go_simp)⟩) hS ?_
        change wpAnyH _ _ _ _ _ _ _ (Act.put _ (some 42) _) _
        simp only [Act.put]
        try simp only [List.setIfInBounds_toArray, List.set_cons_zero, List.set_cons_succ]
        refine wpAnyH_ready (rs := [0, 7]) (by kernel_rfl) (by simp) ?_
        refine AllReadyH.cons rfl (fun K hK => ?_) (AllReadyH.cons rfl (fun K hK => ?_) (AllReadyH.nil))
        · skip
          go_simp
          refine hK.out _ _ trivial (fun hS => ?_)
          clear hK K
          refine wpAnyH_ready (rs := [5, 7]) (by kernel_rfl) (by simp) ?_
          refine AllReadyH.cons rfl (fun K hK => ?_) (AllReadyH.cons rfl (fun K hK => ?_) (AllReadyH.nil))
          · skip
            refine step_append_any _ rfl (.tmp 38) (.tmp 42) 28 rfl V.heap.size 40 ji (.slice none 0 0) 1 24 Try.underlying28 hi1 hy0 hy1 hy2 rfl (by decide) (.slice (some ⟨V.heap.size, 0, none⟩) 0 0) 0 [] rfl (by simpa using World.ownsRow_made V #[] 0 (Nat.le_refl _) (by simp [maxLen]) (by simp)) _ (some (ad.add kk)) (m3 - kk) (d3 - kk) (flat gv (G.drop kk)) rfl ((reads_drop HRd.out (Nat.le_of_lt hkl.out)).alloc (Nat.le_refl _) (.cells #[] 40)) (gv_ones _) (by simp only [maxLen]; omega) (by omega) (by simp) ?_
            intro v9 w9 own9 grow9 _
            rw [List.nil_append, Nat.zero_add] at own9
            have B9 : Below V.heap.size V w9 := ((Below.refl V.heap.size V).alloc (Nat.le_refl _) (.cells #[] 40)).grown grow9 (by simp) (fun g hg => by have h : V.heap.size = g := Option.some.inj hg; rw [← h]; exact Nat.le_refl _)
            obtain ⟨A7, c7, rfl, hc7, _⟩ := own_reads own9
            have KW : Blk w9 g3 30 #[.slice B1 m1 d1, .slice B2 m2 d2, .slice (some ad) m3 d3] := KV0.below B9 KV0.lt
            have HO9 := Lib.hid (And.intro own9 (And.intro B9 (cut_reads length_gv ((HRd.out.below B9).more B9.size) kk)))
            clear own9 grow9 B9 KR
            refine hK.out _ _ trivial (fun hS => ?_)
            clear hK K
            refine wpAnyH_ready (rs := [7]) (by kernel_rfl) (by simp) ?_
            refine AllReadyH.cons rfl (fun K hK => ?_) AllReadyH.nil
            have q := KW.cell 2
            go_simp
            clear q
            refine hK.out _ _ trivial (fun hS => ?_)
            clear hK K
            refine wpAnyH_take (i := 9) (v := .slice (some ad) kk d3) rfl (by kernel_rfl) (by kernel_rfl) (by kernel_rfl) (fun _ _ _ h => h) (Or.inl ⟨by kernel_rfl, fun u hSw => (by go_simp)⟩) hS ?_
            change wpAnyH _ _ _ _ _ _ _ (Act.put _ (some 47) _) _
            simp only [Act.put]
            try simp only [List.setIfInBounds_toArray, List.set_cons_zero, List.set_cons_succ]
            refine wpAnyH_ready (rs := [10]) (by kernel_rfl) (by simp) ?_
            refine AllReadyH.cons rfl (fun K hK => ?_) AllReadyH.nil
            refine step_append_any _ rfl (.tmp 43) (.tmp 47) 28 rfl V.heap.size 40 ji (.slice none 0 0) 1 24 Try.underlying28 hi1 hy0 hy1 hy2 rfl (by decide) (.slice A7 (m3 - kk) c7) (m3 - kk) (flat gv (G.drop kk)) rfl HO9.out.1 _ (some ad) kk d3 (flat gv (G.take kk)) rfl (by have q := HO9.out.2.2; rwa [Nat.min_eq_right (Nat.le_of_lt hkl.out)] at q) (gv_ones _) (by have := hkl.out; simp only [maxLen]; omega) (by have := hkl.out; omega) HO9.out.2.1.size ?_
            intro v10 w10 own10 grow10 _
            rw [← flat_append, show m3 - kk + kk = m3 from by have := hkl.out; omega] at own10
            have B10 : Below V.heap.size V w10 := HO9.out.2.1.grown grow10 HO9.out.2.1.size (fun g hg => (HO9.out.1.lt g hg).1)
            obtain ⟨g8, c8, rfl, hg8⟩ := own_form own10 (by omega)
            have S10 : Blk w10 g3 30 #[.slice B1 m1 d1, .slice B2 m2 d2, .slice (some ad) m3 d3] := KV0.below B10 KV0.lt
            have f2 := S10.frozen 2
            have e2 := S10.cell 2
            have HO := Lib.hid (And.intro own10 (And.intro B10 hg8))
            clear own10 grow10 B10 HO9 hg8 S10 KW
            refine hK.out _ _ trivial (fun hS => ?_)
            clear hK K
            refine wpAnyH_take (i := 11) (v := .pointer (some ⟨g3, 2, none⟩)) rfl (by kernel_rfl) (by kernel_rfl) (by kernel_rfl) (fun _ _ _ h => h) (Or.inl ⟨by kernel_rfl, fun u hSw => (by go_simp)⟩) hS ?_
            change wpAnyH _ _ _ _ _ _ _ (Act.put _ (some 49) _) _
            simp only [Act.put]
            refine wpAnyH_ready (rs := [12]) (by kernel_rfl) (by simp) ?_
            refine AllReadyH.cons rfl (fun K hK => ?_) AllReadyH.nil
            go_simp
            refine hK.out _ _ trivial (fun hS => ?_)
            clear hK K
            refine wpAnyH_done (by kernel_rfl) ?_ _
            clear hS
            go_wp2_with fail
            go_meet
            have hz := HV3.out.2
            exact ⟨g8, c8, w10, rfl, by rw [← hz]; exact HO.out.1, HV3.out.1.trans (HO.out.2.1.mono (by omega)), by rw [← hz]; exact HO.out.2.2⟩
          · skip
            have q := KR.cell 2
            go_simp
            clear q
            refine hK.out _ _ trivial (fun hS => ?_)
            clear hK K
            refine wpAnyH_take (i := 9) (v := .slice (some ad) kk d3) rfl (by kernel_rfl) (by kernel_rfl) (by kernel_rfl) (fun _ _ _ h => h) (Or.inl ⟨by kernel_rfl, fun u hSw => (by go_simp)⟩) hS ?_
            change wpAnyH _ _ _ _ _ _ _ (Act.put _ (some 47) _) _
            simp only [Act.put]
            try simp only [List.setIfInBounds_toArray, List.set_cons_zero, List.set_cons_succ]
            refine wpAnyH_ready (rs := [5]) (by kernel_rfl) (by simp) ?_
            refine AllReadyH.cons rfl (fun K hK => ?_) AllReadyH.nil
            refine step_append_any _ rfl (.tmp 38) (.tmp 42) 28 rfl V.heap.size 40 ji (.slice none 0 0) 1 24 Try.underlying28 hi1 hy0 hy1 hy2 rfl (by decide) (.slice (some ⟨V.heap.size, 0, none⟩) 0 0) 0 [] rfl (by simpa using World.ownsRow_made V #[] 0 (Nat.le_refl _) (by simp [maxLen]) (by simp)) _ (some (ad.add kk)) (m3 - kk) (d3 - kk) (flat gv (G.drop kk)) rfl ((reads_drop HRd.out (Nat.le_of_lt hkl.out)).alloc (Nat.le_refl _) (.cells #[] 40)) (gv_ones _) (by simp only [maxLen]; omega) (by omega) (by simp) ?_
            intro v9 w9 own9 grow9 _
            rw [List.nil_append, Nat.zero_add] at own9
            have B9 : Below V.heap.size V w9 := ((Below.refl V.heap.size V).alloc (Nat.le_refl _) (.cells #[] 40)).grown grow9 (by simp) (fun g hg => by have h : V.heap.size = g := Option.some.inj hg; rw [← h]; exact Nat.le_refl _)
            obtain ⟨A7, c7, rfl, hc7, _⟩ := own_reads own9
            have KW : Blk w9 g3 30 #[.slice B1 m1 d1, .slice B2 m2 d2, .slice (some ad) m3 d3] := KV0.below B9 KV0.lt
            have HO9 := Lib.hid (And.intro own9 (And.intro B9 (cut_reads length_gv ((HRd.out.below B9).more B9.size) kk)))
            clear own9 grow9 B9 KR
            refine hK.out _ _ trivial (fun hS => ?_)
            clear hK K
            refine wpAnyH_ready (rs := [10]) (by kernel_rfl) (by simp) ?_
            refine AllReadyH.cons rfl (fun K hK => ?_) AllReadyH.nil
            refine step_append_any _ rfl (.tmp 43) (.tmp 47) 28 rfl V.heap.size 40 ji (.slice none 0 0) 1 24 Try.underlying28 hi1 hy0 hy1 hy2 rfl (by decide) (.slice A7 (m3 - kk) c7) (m3 - kk) (flat gv (G.drop kk)) rfl HO9.out.1 _ (some ad) kk d3 (flat gv (G.take kk)) rfl (by have q := HO9.out.2.2; rwa [Nat.min_eq_right (Nat.le_of_lt hkl.out)] at q) (gv_ones _) (by have := hkl.out; simp only [maxLen]; omega) (by have := hkl.out; omega) HO9.out.2.1.size ?_
            intro v10 w10 own10 grow10 _
            rw [← flat_append, show m3 - kk + kk = m3 from by have := hkl.out; omega] at own10
            have B10 : Below V.heap.size V w10 := HO9.out.2.1.grown grow10 HO9.out.2.1.size (fun g hg => (HO9.out.1.lt g hg).1)
            obtain ⟨g8, c8, rfl, hg8⟩ := own_form own10 (by omega)
            have S10 : Blk w10 g3 30 #[.slice B1 m1 d1, .slice B2 m2 d2, .slice (some ad) m3 d3] := KV0.below B10 KV0.lt
            have f2 := S10.frozen 2
            have e2 := S10.cell 2
            have HO := Lib.hid (And.intro own10 (And.intro B10 hg8))
            clear own10 grow10 B10 HO9 hg8 S10 KW
            refine hK.out _ _ trivial (fun hS => ?_)
            clear hK K
            refine wpAnyH_take (i := 11) (v := .pointer (some ⟨g3, 2, none⟩)) rfl (by kernel_rfl) (by kernel_rfl) (by kernel_rfl) (fun _ _ _ h => h) (Or.inl ⟨by kernel_rfl, fun u hSw => (by go_simp)⟩) hS ?_
            change wpAnyH _ _ _ _ _ _ _ (Act.put _ (some 49) _) _
            simp only [Act.put]
            refine wpAnyH_ready (rs := [12]) (by kernel_rfl) (by simp) ?_
            refine AllReadyH.cons rfl (fun K hK => ?_) AllReadyH.nil
            go_simp
            refine hK.out _ _ trivial (fun hS => ?_)
            clear hK K
            refine wpAnyH_done (by kernel_rfl) ?_ _
            clear hS
            go_wp2_with fail
            go_meet
            have hz := HV3.out.2
            exact ⟨g8, c8, w10, rfl, by rw [← hz]; exact HO.out.1, HV3.out.1.trans (HO.out.2.1.mono (by omega)), by rw [← hz]; exact HO.out.2.2⟩
        · skip
          have q := KV0.cell 2
          go_simp
          clear q
          refine hK.out _ _ trivial (fun hS => ?_)
          clear hK K
          refine wpAnyH_take (i := 9) (v := .slice (some ad) kk d3) rfl (by kernel_rfl) (by kernel_rfl) (by kernel_rfl) (fun _ _ _ h => h) (Or.inl ⟨by kernel_rfl, fun u hSw => (by go_simp)⟩) hS ?_
          change wpAnyH _ _ _ _ _ _ _ (Act.put _ (some 47) _) _
          simp only [Act.put]
          try simp only [List.setIfInBounds_toArray, List.set_cons_zero, List.set_cons_succ]
          refine wpAnyH_ready (rs := [0]) (by kernel_rfl) (by simp) ?_
          refine AllReadyH.cons rfl (fun K hK => ?_) AllReadyH.nil
          go_simp
          refine hK.out _ _ trivial (fun hS => ?_)
          clear hK K
          refine wpAnyH_ready (rs := [5]) (by kernel_rfl) (by simp) ?_
          refine AllReadyH.cons rfl (fun K hK => ?_) AllReadyH.nil
          refine step_append_any _ rfl (.tmp 38) (.tmp 42) 28 rfl V.heap.size 40 ji (.slice none 0 0) 1 24 Try.underlying28 hi1 hy0 hy1 hy2 rfl (by decide) (.slice (some ⟨V.heap.size, 0, none⟩) 0 0) 0 [] rfl (by simpa using World.ownsRow_made V #[] 0 (Nat.le_refl _) (by simp [maxLen]) (by simp)) _ (some (ad.add kk)) (m3 - kk) (d3 - kk) (flat gv (G.drop kk)) rfl ((reads_drop HRd.out (Nat.le_of_lt hkl.out)).alloc (Nat.le_refl _) (.cells #[] 40)) (gv_ones _) (by simp only [maxLen]; omega) (by omega) (by simp) ?_
          intro v9 w9 own9 grow9 _
          rw [List.nil_append, Nat.zero_add] at own9
          have B9 : Below V.heap.size V w9 := ((Below.refl V.heap.size V).alloc (Nat.le_refl _) (.cells #[] 40)).grown grow9 (by simp) (fun g hg => by have h : V.heap.size = g := Option.some.inj hg; rw [← h]; exact Nat.le_refl _)
          obtain ⟨A7, c7, rfl, hc7, _⟩ := own_reads own9
          have KW : Blk w9 g3 30 #[.slice B1 m1 d1, .slice B2 m2 d2, .slice (some ad) m3 d3] := KV0.below B9 KV0.lt
          have HO9 := Lib.hid (And.intro own9 (And.intro B9 (cut_reads length_gv ((HRd.out.below B9).more B9.size) kk)))
          clear own9 grow9 B9 KR
          refine hK.out _ _ trivial (fun hS => ?_)
          clear hK K
          refine wpAnyH_ready (rs := [10]) (by kernel_rfl) (by simp) ?_
          refine AllReadyH.cons rfl (fun K hK => ?_) AllReadyH.nil
          refine step_append_any _ rfl (.tmp 43) (.tmp 47) 28 rfl V.heap.size 40 ji (.slice none 0 0) 1 24 Try.underlying28 hi1 hy0 hy1 hy2 rfl (by decide) (.slice A7 (m3 - kk) c7) (m3 - kk) (flat gv (G.drop kk)) rfl HO9.out.1 _ (some ad) kk d3 (flat gv (G.take kk)) rfl (by have q := HO9.out.2.2; rwa [Nat.min_eq_right (Nat.le_of_lt hkl.out)] at q) (gv_ones _) (by have := hkl.out; simp only [maxLen]; omega) (by have := hkl.out; omega) HO9.out.2.1.size ?_
          intro v10 w10 own10 grow10 _
          rw [← flat_append, show m3 - kk + kk = m3 from by have := hkl.out; omega] at own10
          have B10 : Below V.heap.size V w10 := HO9.out.2.1.grown grow10 HO9.out.2.1.size (fun g hg => (HO9.out.1.lt g hg).1)
          obtain ⟨g8, c8, rfl, hg8⟩ := own_form own10 (by omega)
          have S10 : Blk w10 g3 30 #[.slice B1 m1 d1, .slice B2 m2 d2, .slice (some ad) m3 d3] := KV0.below B10 KV0.lt
          have f2 := S10.frozen 2
          have e2 := S10.cell 2
          have HO := Lib.hid (And.intro own10 (And.intro B10 hg8))
          clear own10 grow10 B10 HO9 hg8 S10 KW
          refine hK.out _ _ trivial (fun hS => ?_)
          clear hK K
          refine wpAnyH_take (i := 11) (v := .pointer (some ⟨g3, 2, none⟩)) rfl (by kernel_rfl) (by kernel_rfl) (by kernel_rfl) (fun _ _ _ h => h) (Or.inl ⟨by kernel_rfl, fun u hSw => (by go_simp)⟩) hS ?_
          change wpAnyH _ _ _ _ _ _ _ (Act.put _ (some 49) _) _
          simp only [Act.put]
          refine wpAnyH_ready (rs := [12]) (by kernel_rfl) (by simp) ?_
          refine AllReadyH.cons rfl (fun K hK => ?_) AllReadyH.nil
          go_simp
          refine hK.out _ _ trivial (fun hS => ?_)
          clear hK K
          refine wpAnyH_done (by kernel_rfl) ?_ _
          clear hS
          go_wp2_with fail
          go_meet
          have hz := HV3.out.2
          exact ⟨g8, c8, w10, rfl, by rw [← hz]; exact HO.out.1, HV3.out.1.trans (HO.out.2.1.mono (by omega)), by rw [← hz]; exact HO.out.2.2⟩
      · skip
        have q := KV0.cell 2
        go_simp
        clear q
        refine hK.out _ _ trivial (fun hS => ?_)
        clear hK K
        refine wpAnyH_take (i := 9) (v := .slice (some ad) kk d3) rfl (by kernel_rfl) (by kernel_rfl) (by kernel_rfl) (fun _ _ _ h => h) (Or.inl ⟨by kernel_rfl, fun u hSw => (by go_simp)⟩) hS ?_
        change wpAnyH _ _ _ _ _ _ _ (Act.put _ (some 47) _) _
        simp only [Act.put]
        try simp only [List.setIfInBounds_toArray, List.set_cons_zero, List.set_cons_succ]
        refine wpAnyH_ready (rs := [0, 2]) (by kernel_rfl) (by simp) ?_
        refine AllReadyH.cons rfl (fun K hK => ?_) (AllReadyH.cons rfl (fun K hK => ?_) (AllReadyH.nil))
        · skip
          go_simp
          refine hK.out _ _ trivial (fun hS => ?_)
          clear hK K
          refine wpAnyH_ready (rs := [2]) (by kernel_rfl) (by simp) ?_
          refine AllReadyH.cons rfl (fun K hK => ?_) AllReadyH.nil
          have q := KR.cell 2
          go_simp
          clear q
          refine hK.out _ _ trivial (fun hS => ?_)
          clear hK K
          refine wpAnyH_take (i := 4) (v := .slice (some (ad.add kk)) (m3 - kk) (d3 - kk)) rfl (by kernel_rfl) (by kernel_rfl) (by kernel_rfl) (fun _ _ _ h => h) (Or.inl ⟨by kernel_rfl, fun u hSw => (by go_simp)⟩) hS ?_
          change wpAnyH _ _ _ _ _ _ _ (Act.put _ (some 42) _) _
          simp only [Act.put]
          try simp only [List.setIfInBounds_toArray, List.set_cons_zero, List.set_cons_succ]
          refine wpAnyH_ready (rs := [5]) (by kernel_rfl) (by simp) ?_
          refine AllReadyH.cons rfl (fun K hK => ?_) AllReadyH.nil
          refine step_append_any _ rfl (.tmp 38) (.tmp 42) 28 rfl V.heap.size 40 ji (.slice none 0 0) 1 24 Try.underlying28 hi1 hy0 hy1 hy2 rfl (by decide) (.slice (some ⟨V.heap.size, 0, none⟩) 0 0) 0 [] rfl (by simpa using World.ownsRow_made V #[] 0 (Nat.le_refl _) (by simp [maxLen]) (by simp)) _ (some (ad.add kk)) (m3 - kk) (d3 - kk) (flat gv (G.drop kk)) rfl ((reads_drop HRd.out (Nat.le_of_lt hkl.out)).alloc (Nat.le_refl _) (.cells #[] 40)) (gv_ones _) (by simp only [maxLen]; omega) (by omega) (by simp) ?_
          intro v9 w9 own9 grow9 _
          rw [List.nil_append, Nat.zero_add] at own9
          have B9 : Below V.heap.size V w9 := ((Below.refl V.heap.size V).alloc (Nat.le_refl _) (.cells #[] 40)).grown grow9 (by simp) (fun g hg => by have h : V.heap.size = g := Option.some.inj hg; rw [← h]; exact Nat.le_refl _)
          obtain ⟨A7, c7, rfl, hc7, _⟩ := own_reads own9
          have KW : Blk w9 g3 30 #[.slice B1 m1 d1, .slice B2 m2 d2, .slice (some ad) m3 d3] := KV0.below B9 KV0.lt
          have HO9 := Lib.hid (And.intro own9 (And.intro B9 (cut_reads length_gv ((HRd.out.below B9).more B9.size) kk)))
          clear own9 grow9 B9 KR
          refine hK.out _ _ trivial (fun hS => ?_)
          clear hK K
          refine wpAnyH_ready (rs := [10]) (by kernel_rfl) (by simp) ?_
          refine AllReadyH.cons rfl (fun K hK => ?_) AllReadyH.nil
          refine step_append_any _ rfl (.tmp 43) (.tmp 47) 28 rfl V.heap.size 40 ji (.slice none 0 0) 1 24 Try.underlying28 hi1 hy0 hy1 hy2 rfl (by decide) (.slice A7 (m3 - kk) c7) (m3 - kk) (flat gv (G.drop kk)) rfl HO9.out.1 _ (some ad) kk d3 (flat gv (G.take kk)) rfl (by have q := HO9.out.2.2; rwa [Nat.min_eq_right (Nat.le_of_lt hkl.out)] at q) (gv_ones _) (by have := hkl.out; simp only [maxLen]; omega) (by have := hkl.out; omega) HO9.out.2.1.size ?_
          intro v10 w10 own10 grow10 _
          rw [← flat_append, show m3 - kk + kk = m3 from by have := hkl.out; omega] at own10
          have B10 : Below V.heap.size V w10 := HO9.out.2.1.grown grow10 HO9.out.2.1.size (fun g hg => (HO9.out.1.lt g hg).1)
          obtain ⟨g8, c8, rfl, hg8⟩ := own_form own10 (by omega)
          have S10 : Blk w10 g3 30 #[.slice B1 m1 d1, .slice B2 m2 d2, .slice (some ad) m3 d3] := KV0.below B10 KV0.lt
          have f2 := S10.frozen 2
          have e2 := S10.cell 2
          have HO := Lib.hid (And.intro own10 (And.intro B10 hg8))
          clear own10 grow10 B10 HO9 hg8 S10 KW
          refine hK.out _ _ trivial (fun hS => ?_)
          clear hK K
          refine wpAnyH_take (i := 11) (v := .pointer (some ⟨g3, 2, none⟩)) rfl (by kernel_rfl) (by kernel_rfl) (by kernel_rfl) (fun _ _ _ h => h) (Or.inl ⟨by kernel_rfl, fun u hSw => (by go_simp)⟩) hS ?_
          change wpAnyH _ _ _ _ _ _ _ (Act.put _ (some 49) _) _
          simp only [Act.put]
          refine wpAnyH_ready (rs := [12]) (by kernel_rfl) (by simp) ?_
          refine AllReadyH.cons rfl (fun K hK => ?_) AllReadyH.nil
          go_simp
          refine hK.out _ _ trivial (fun hS => ?_)
          clear hK K
          refine wpAnyH_done (by kernel_rfl) ?_ _
          clear hS
          go_wp2_with fail
          go_meet
          have hz := HV3.out.2
          exact ⟨g8, c8, w10, rfl, by rw [← hz]; exact HO.out.1, HV3.out.1.trans (HO.out.2.1.mono (by omega)), by rw [← hz]; exact HO.out.2.2⟩
        · skip
          have q := KV0.cell 2
          go_simp
          clear q
          refine hK.out _ _ trivial (fun hS => ?_)
          clear hK K
          refine wpAnyH_take (i := 4) (v := .slice (some (ad.add kk)) (m3 - kk) (d3 - kk)) rfl (by kernel_rfl) (by kernel_rfl) (by kernel_rfl) (fun _ _ _ h => h) (Or.inl ⟨by kernel_rfl, fun u hSw => (by go_simp)⟩) hS ?_
          change wpAnyH _ _ _ _ _ _ _ (Act.put _ (some 42) _) _
          simp only [Act.put]
          try simp only [List.setIfInBounds_toArray, List.set_cons_zero, List.set_cons_succ]
          refine wpAnyH_ready (rs := [0]) (by kernel_rfl) (by simp) ?_
          refine AllReadyH.cons rfl (fun K hK => ?_) AllReadyH.nil
          go_simp
          refine hK.out _ _ trivial (fun hS => ?_)
          clear hK K
          refine wpAnyH_ready (rs := [5]) (by kernel_rfl) (by simp) ?_
          refine AllReadyH.cons rfl (fun K hK => ?_) AllReadyH.nil
          refine step_append_any _ rfl (.tmp 38) (.tmp 42) 28 rfl V.heap.size 40 ji (.slice none 0 0) 1 24 Try.underlying28 hi1 hy0 hy1 hy2 rfl (by decide) (.slice (some ⟨V.heap.size, 0, none⟩) 0 0) 0 [] rfl (by simpa using World.ownsRow_made V #[] 0 (Nat.le_refl _) (by simp [maxLen]) (by simp)) _ (some (ad.add kk)) (m3 - kk) (d3 - kk) (flat gv (G.drop kk)) rfl ((reads_drop HRd.out (Nat.le_of_lt hkl.out)).alloc (Nat.le_refl _) (.cells #[] 40)) (gv_ones _) (by simp only [maxLen]; omega) (by omega) (by simp) ?_
          intro v9 w9 own9 grow9 _
          rw [List.nil_append, Nat.zero_add] at own9
          have B9 : Below V.heap.size V w9 := ((Below.refl V.heap.size V).alloc (Nat.le_refl _) (.cells #[] 40)).grown grow9 (by simp) (fun g hg => by have h : V.heap.size = g := Option.some.inj hg; rw [← h]; exact Nat.le_refl _)
          obtain ⟨A7, c7, rfl, hc7, _⟩ := own_reads own9
          have KW : Blk w9 g3 30 #[.slice B1 m1 d1, .slice B2 m2 d2, .slice (some ad) m3 d3] := KV0.below B9 KV0.lt
          have HO9 := Lib.hid (And.intro own9 (And.intro B9 (cut_reads length_gv ((HRd.out.below B9).more B9.size) kk)))
          clear own9 grow9 B9 KR
          refine hK.out _ _ trivial (fun hS => ?_)
          clear hK K
          refine wpAnyH_ready (rs := [10]) (by kernel_rfl) (by simp) ?_
          refine AllReadyH.cons rfl (fun K hK => ?_) AllReadyH.nil
          refine step_append_any _ rfl (.tmp 43) (.tmp 47) 28 rfl V.heap.size 40 ji (.slice none 0 0) 1 24 Try.underlying28 hi1 hy0 hy1 hy2 rfl (by decide) (.slice A7 (m3 - kk) c7) (m3 - kk) (flat gv (G.drop kk)) rfl HO9.out.1 _ (some ad) kk d3 (flat gv (G.take kk)) rfl (by have q := HO9.out.2.2; rwa [Nat.min_eq_right (Nat.le_of_lt hkl.out)] at q) (gv_ones _) (by have := hkl.out; simp only [maxLen]; omega) (by have := hkl.out; omega) HO9.out.2.1.size ?_
          intro v10 w10 own10 grow10 _
          rw [← flat_append, show m3 - kk + kk = m3 from by have := hkl.out; omega] at own10
          have B10 : Below V.heap.size V w10 := HO9.out.2.1.grown grow10 HO9.out.2.1.size (fun g hg => (HO9.out.1.lt g hg).1)
          obtain ⟨g8, c8, rfl, hg8⟩ := own_form own10 (by omega)
          have S10 : Blk w10 g3 30 #[.slice B1 m1 d1, .slice B2 m2 d2, .slice (some ad) m3 d3] := KV0.below B10 KV0.lt
          have f2 := S10.frozen 2
          have e2 := S10.cell 2
          have HO := Lib.hid (And.intro own10 (And.intro B10 hg8))
          clear own10 grow10 B10 HO9 hg8 S10 KW
          refine hK.out _ _ trivial (fun hS => ?_)
          clear hK K
          refine wpAnyH_take (i := 11) (v := .pointer (some ⟨g3, 2, none⟩)) rfl (by kernel_rfl) (by kernel_rfl) (by kernel_rfl) (fun _ _ _ h => h) (Or.inl ⟨by kernel_rfl, fun u hSw => (by go_simp)⟩) hS ?_
          change wpAnyH _ _ _ _ _ _ _ (Act.put _ (some 49) _) _
          simp only [Act.put]
          refine wpAnyH_ready (rs := [12]) (by kernel_rfl) (by simp) ?_
          refine AllReadyH.cons rfl (fun K hK => ?_) AllReadyH.nil
          go_simp
          refine hK.out _ _ trivial (fun hS => ?_)
          clear hK K
          refine wpAnyH_done (by kernel_rfl) ?_ _
          clear hS
          go_wp2_with fail
          go_meet
          have hz := HV3.out.2
          exact ⟨g8, c8, w10, rfl, by rw [← hz]; exact HO.out.1, HV3.out.1.trans (HO.out.2.1.mono (by omega)), by rw [← hz]; exact HO.out.2.2⟩
    case rest =>
      obtain ⟨g8, c8, w10, rfl, HO1, HB10, hg8⟩ := hcut
      have K10 := K3.below HB10 K3.lt
      have KS := K10.set_ 2 (.slice (some ⟨g8, 0, none⟩) m3 c8)
      have HYL := HYZ.out
      have HZ := K3.lt
      have hg3 := HG3.out
      have ES2 := (HES.out.below HB10).set HYZ.out 2 (.slice (some ⟨g8, 0, none⟩) m3 c8)
      have HLt := Lib.hid (And.intro (fun j hj => (HES.out.row.lt j hj).2) (fun e he j hj => ((HES.out.mem e he).lt j hj).2))
      have GY2 := (GY.trans (HB10.mono GY.size)).setCell (p := ⟨g3, 2, none⟩) (show w2.heap.size ≤ g3 by omega) (.slice (some ⟨g8, 0, none⟩) m3 c8)
      have OW := own_set HO1 HZ 2 (.slice (some ⟨g8, 0, none⟩) m3 c8)
      have hnc := own_nc OW
      have HGz := Lib.hid (And.intro GY.size (And.intro HZ hg8))
      clear K10 K3 GY HES HO1 HB10 HYL HZ hg3 hg8
      obtain ⟨V2, hV2⟩ : ∃ V2, w10.setCell ⟨g3, 2, none⟩ (.slice (some ⟨g8, 0, none⟩) m3 c8) = V2 := ⟨_, rfl⟩
      rw [hV2] at KS ES2 GY2 OW ⊢
      clear hV2
      obtain ⟨N3, hN3⟩ : ∃ N3, w3.heap.size = N3 := ⟨_, rfl⟩
      rw [hN3] at HLt HGz OW
      have KS : Blk V2 g3 30 #[.slice B1 m1 d1, .slice B2 m2 d2, .slice (some ⟨g8, 0, none⟩) m3 c8] := by simpa using KS
      have z2 := KS.cell 2
      obtain ⟨mh, hmh, hdiv⟩ : ∃ mh : Nat, mh ≤ m3 ∧ (m3 : Int).tdiv 2 = (mh : Int) := ⟨m3 / 2, by omega, by rw [Int.tdiv_eq_ediv_of_nonneg (by omega)]; omega⟩
      have hm1' : (0 : Int) ≤ (mh : Int) := by omega
      have hm2' : (mh : Int) ≤ (c8 : Int) := by omega
      have HRv := Lib.hid (reverse_any N3 g8 m3 c8 mh c8 (G.drop kk ++ G.take kk) V2 OW hmh (by omega))
      clear OW
      go_wp2_with fail
      refine HRv.out.mono ?_
      rintro e V3 ⟨rfl, G2, OW2, hp2, hgr⟩
      have K3 := KS.grown hgr (fun e => by have h : g3 = g8 := Option.some.inj e; have := HGz.out.2.1; have := HGz.out.2.2; omega)
      have HES := Lib.hid (ES2.kept hgr HGz.out.2.2 HLt.out.1 HLt.out.2)
      have GY := GY2.grown hgr GY2.size (fun g hg => by have h : g8 = g := Option.some.inj hg; have := HGz.out.1; have := HGz.out.2.2; omega)
      have hpp : G2.Perm G := hp2.trans (by
        have := @List.perm_append_comm _ (G.drop kk) (G.take kk)
        rwa [List.take_append_drop] at this)
      have HP := Lib.hid (gsI_perm hpp)
      have HGW3 := Lib.hid (show GW V3 (some ⟨g8, 0, none⟩) m3 G2 from ⟨Reads.of_own OW2, by omega, fun g hg => ⟨(HGW.out.each g (hpp.mem_iff.1 hg)).1.below GY, (HGW.out.each g (hpp.mem_iff.1 hg)).2⟩⟩)
      clear KS ES2 GY2 HLt OW2 hgr hp2 hpp z2 HRv hdiv hm1' hm2' hmh hnc
      have HEn2 := Lib.hid (entities_any B1 m1 d1 q5 B2 m2 d2 w5 (some ⟨g8, 0, none⟩) m3 c8 G2 V3 (HQ.out.below GY) (HW.out.below GY) HGW3.out)
      unfold EntAny at HEn2
      rw [chk_perm q5 w5 HP.out, entR_perm HU5.out HP.out, hr, hR0] at HEn2
      have z0 := K3.cell 0
      have z1 := K3.cell 1
      have z2 := K3.cell 2
      have vr : (r != r) = false := by simp
      go_wp2_with fail
      refine HEn2.out.mono ?_
      rintro e V5 ⟨A10, n10, c10, E2, rfl, hES2, hE2, _, h9⟩
      have hn : n10 = n9 := by
        have h1 := HES.out.count
        have h2 := hES2.count
        rw [HE.out] at h1
        rw [hE2] at h2
        omega
      subst hn
      replace HGB := Lib.hid (HGB.out.trans ((GY.trans (h9.mono GY.size)).mono HGB.out.size))
      have HQ1 := Lib.hid ((HES.out.below h9).eqq HU5.out (HE.out.trans hR0.symm) HN9.out)
      have HQ2 := Lib.hid (hES2.eqq HU5.out (hE2.trans hR0.symm) HN9.out)
      have HEE := Lib.hid (show E.map et = E2.map et from HE.out.trans hE2.symm)
      have HCn := Lib.hid (fun x (hx : x ∈ E.map et) => (entR_facts (qs := q5) (ws := w5) (gs := gsI G) HU5.out).1 x (by rw [hR0, ← HE.out]; exact hx))
      have hn16 := HN9.out
      have HMl := Lib.hid (fun x (hx : x ∈ E.map et) => entR_mem_len (qs := q5) (ws := w5) (gs := gsI G) HU5.out (x := x) (by rw [hR0, ← HE.out]; exact hx))
      clear h9 z0 z1 z2 vr hES2 hE2 HEn2 K3 GY HQ HW HGW HP HES HE hR0 hr HN9
      go_wp2_with fail
      go_loopw [78] (fun iv wr => ∃ k : Nat, k ≤ n10 ∧ iv = .int .i64 (k : Int) ∧ Hid (Below V5.heap.size V5 wr)) (fun iv _ => n10 - (intOf iv).toNat)
      case atStart => exact ⟨0, by omega, rfl, Lib.hid (Below.refl _ _)⟩
      case round =>
        obtain ⟨k, hk, rfl, HB⟩ := hrel
        by_cases hlt : k < n10
        · obtain ⟨⟨⟨A1, n1, c1, is⟩, ⟨h, l, x⟩, o, f⟩, hx⟩ := elem_at (l := E) (k := k) (by rw [HQ1.out.len]; exact hlt)
          obtain ⟨⟨⟨A2, n2, c2', is2⟩, ⟨h2, l2, x2⟩, o2, f2⟩, hy⟩ := elem_at (l := E2) (k := k) (by rw [HQ2.out.len]; exact hlt)
          have hxe : (E.map et)[k]? = some (is, (h, l, x), o, f) := by rw [List.getElem?_map, hx]; rfl
          have hye : (E2.map et)[k]? = some (is2, (h2, l2, x2), o2, f2) := by rw [List.getElem?_map, hy]; rfl
          have hq := hxe
          rw [HEE.out, hye] at hq
          obtain ⟨rfl, ⟨rfl, rfl, rfl⟩, rfl, rfl⟩ : is2 = is ∧ (h2 = h ∧ l2 = l ∧ x2 = x) ∧ o2 = o ∧ f2 = f := by
            have := Option.some.inj hq
            simp only [Prod.mk.injEq] at this
            exact this
          obtain ⟨hcan, u1, u2, u3⟩ := HCn.out _ (List.mem_of_getElem? hxe)
          have hm1 := HQ1.out.mem _ (List.mem_of_getElem? hx)
          have hm2 := HQ2.out.mem _ (List.mem_of_getElem? hy)
          have hl1 : is2.length = n1 := HQ1.out.len_mem (List.mem_of_getElem? hx)
          have hl2 : is2.length = n2 := HQ2.out.len_mem (List.mem_of_getElem? hy)
          have hp1 := can_pos hcan hl1
          have hp2 := can_pos hcan hl2
          have HLk := Lib.hid (fun (u : World) (hu : Below V5.heap.size V5 u) => like_any A1 n1 c1 h2 l2 x2 o2 f2 is2 A2 n2 c2' h2 l2 x2 o2 f2 is2 u u1 u2 u3 u1 u2 u3 ((hm1.below hu).more hu.size) ((hm2.below hu).more hu.size) hp1 hp2)
          rw [like_self] at HLk
          unfold agE at HLk
          have hlen : n1 ≤ 1000 := by have := HMl.out _ (List.mem_of_getElem? hxe); simp only at this; omega
          obtain rfl : n2 = n1 := hl2.symm.trans hl1
          have HEq := Lib.hid (fun (u : World) (hu : Below V5.heap.size V5 u) => iequal_any A1 n2 c1 is2 A2 c2' u ⟨(hm1.below hu).more hu.size, hlen⟩ ⟨(hm2.below hu).more hu.size, hlen⟩)
          obtain ⟨ad, rfl, _, _⟩ := HQ1.out.at_ hx
          obtain ⟨ae, rfl, _, _⟩ := HQ2.out.at_ hy
          have HF1 : Hid (∀ u, Below V5.heap.size V5 u → u.cell? (ad.add (k * 6)) = some (.slice A1 n2 c1) ∧ u.cell? ⟨(ad.add (k * 6)).block, (ad.add (k * 6)).off + 1, none⟩ = some (.int .u64 (h2 : Int)) ∧ u.cell? ⟨(ad.add (k * 6)).block, (ad.add (k * 6)).off + 2, none⟩ = some (.int .u64 (l2 : Int)) ∧ u.cell? ⟨(ad.add (k * 6)).block, (ad.add (k * 6)).off + 3, none⟩ = some (.int .u64 (x2 : Int)) ∧ u.cell? ⟨(ad.add (k * 6)).block, (ad.add (k * 6)).off + 4, none⟩ = some (.int .u64 (o2 : Int)) ∧ u.cell? ⟨(ad.add (k * 6)).block, (ad.add (k * 6)).off + 5, none⟩ = some (.bool f2)) := Lib.hid (fun u hu => by
            obtain ⟨ad2, e2, _, b⟩ := (HQ1.out.below hu).at_ hx
            obtain rfl : ad = ad2 := Option.some.inj e2
            exact b)
          have HF2 : Hid (∀ u, Below V5.heap.size V5 u → u.cell? (ae.add (k * 6)) = some (.slice A2 n2 c2') ∧ u.cell? ⟨(ae.add (k * 6)).block, (ae.add (k * 6)).off + 1, none⟩ = some (.int .u64 (h2 : Int)) ∧ u.cell? ⟨(ae.add (k * 6)).block, (ae.add (k * 6)).off + 2, none⟩ = some (.int .u64 (l2 : Int)) ∧ u.cell? ⟨(ae.add (k * 6)).block, (ae.add (k * 6)).off + 3, none⟩ = some (.int .u64 (x2 : Int)) ∧ u.cell? ⟨(ae.add (k * 6)).block, (ae.add (k * 6)).off + 4, none⟩ = some (.int .u64 (o2 : Int)) ∧ u.cell? ⟨(ae.add (k * 6)).block, (ae.add (k * 6)).off + 5, none⟩ = some (.bool f2)) := Lib.hid (fun u hu => by
            obtain ⟨ad2, e2, _, b⟩ := (HQ2.out.below hu).at_ hy
            obtain rfl : ae = ad2 := Option.some.inj e2
            exact b)
          have i1 : (0 : Int) ≤ (k : Int) := by omega
          have i2 : (k : Int) < (n10 : Int) := by omega
          have BW := HB.out.drew
          clear hx hy hxe hye hq hcan u1 u2 u3 hm1 hm2 hl1 hl2 hp1 hp2 hlen
          go_upto_region 16 with fail
          refine wp_region_held_drew (S := fun u => Below V5.heap.size V5 u) (by kernel_rfl) BW (fun hS => ?_)
          clear BW
          generalize World.drew wr = Y2 at hS ⊢
          refine wpAnyH_take (i := 0) (v := .slice (some ad) n10 c9) rfl (by kernel_rfl) (by kernel_rfl) (by kernel_rfl) (fun _ _ _ h => h) (Or.inl ⟨by kernel_rfl, fun u hSw => (by go_simp)⟩) hS ?_
          change wpAnyH _ _ _ _ _ _ _ (Act.put _ (some 81) _) _
          simp only [Act.put]
          try simp only [List.setIfInBounds_toArray, List.set_cons_zero, List.set_cons_succ]
          refine wpAnyH_take (i := 1) (v := .int .i64 (k : Int)) rfl (by kernel_rfl) (by kernel_rfl) (by kernel_rfl) (fun _ _ _ h => h) (Or.inl ⟨by kernel_rfl, fun u hSw => (by go_simp)⟩) hS ?_
          change wpAnyH _ _ _ _ _ _ _ (Act.put _ (some 82) _) _
          simp only [Act.put]
          try simp only [List.setIfInBounds_toArray, List.set_cons_zero, List.set_cons_succ]
          refine wpAnyH_take (i := 2) (v := .pointer (some (ad.add (k * 6)))) rfl (by kernel_rfl) (by kernel_rfl) (by kernel_rfl) (fun _ _ _ h => h) (Or.inl ⟨by kernel_rfl, fun u hSw => (by go_simp)⟩) hS ?_
          change wpAnyH _ _ _ _ _ _ _ (Act.put _ (some 83) _) _
          simp only [Act.put]
          try simp only [List.setIfInBounds_toArray, List.set_cons_zero, List.set_cons_succ]
          refine wpAnyH_take (i := 3) (v := .agg #[.slice A1 n2 c1, .int .u64 (h2 : Int), .int .u64 (l2 : Int), .int .u64 (x2 : Int), .int .u64 (o2 : Int), .bool f2]) rfl (by kernel_rfl) (by kernel_rfl) (by kernel_rfl) (fun _ _ _ h => h) (Or.inl ⟨by kernel_rfl, fun u hSw => (by obtain ⟨q0, q1, q2, q3, q4, q5⟩ := HF1.out u hSw; go_simp)⟩) hS ?_
          change wpAnyH _ _ _ _ _ _ _ (Act.put _ (some 84) _) _
          simp only [Act.put]
          try simp only [List.setIfInBounds_toArray, List.set_cons_zero, List.set_cons_succ]
          refine wpAnyH_take (i := 4) (v := .slice (some ae) n10 c10) rfl (by kernel_rfl) (by kernel_rfl) (by kernel_rfl) (fun _ _ _ h => h) (Or.inl ⟨by kernel_rfl, fun u hSw => (by go_simp)⟩) hS ?_
          change wpAnyH _ _ _ _ _ _ _ (Act.put _ (some 85) _) _
          simp only [Act.put]
          try simp only [List.setIfInBounds_toArray, List.set_cons_zero, List.set_cons_succ]
          refine wpAnyH_take (i := 5) (v := .int .i64 (k : Int)) rfl (by kernel_rfl) (by kernel_rfl) (by kernel_rfl) (fun _ _ _ h => h) (Or.inl ⟨by kernel_rfl, fun u hSw => (by go_simp)⟩) hS ?_
          change wpAnyH _ _ _ _ _ _ _ (Act.put _ (some 86) _) _
          simp only [Act.put]
          try simp only [List.setIfInBounds_toArray, List.set_cons_zero, List.set_cons_succ]
          refine wpAnyH_take (i := 6) (v := .pointer (some (ae.add (k * 6)))) rfl (by kernel_rfl) (by kernel_rfl) (by kernel_rfl) (fun _ _ _ h => h) (Or.inl ⟨by kernel_rfl, fun u hSw => (by go_simp)⟩) hS ?_
          change wpAnyH _ _ _ _ _ _ _ (Act.put _ (some 87) _) _
          simp only [Act.put]
          try simp only [List.setIfInBounds_toArray, List.set_cons_zero, List.set_cons_succ]
          refine wpAnyH_take (i := 7) (v := .agg #[.slice A2 n2 c2', .int .u64 (h2 : Int), .int .u64 (l2 : Int), .int .u64 (x2 : Int), .int .u64 (o2 : Int), .bool f2]) rfl (by kernel_rfl) (by kernel_rfl) (by kernel_rfl) (fun _ _ _ h => h) (Or.inl ⟨by kernel_rfl, fun u hSw => (by obtain ⟨q0, q1, q2, q3, q4, q5⟩ := HF2.out u hSw; go_simp)⟩) hS ?_
          change wpAnyH _ _ _ _ _ _ _ (Act.put _ (some 88) _) _
          simp only [Act.put]
          try simp only [List.setIfInBounds_toArray, List.set_cons_zero, List.set_cons_succ]
          refine wpAnyH_ready (rs := [8]) (by kernel_rfl) (by simp) ?_
          refine AllReadyH.cons rfl (fun K hK => ?_) AllReadyH.nil
          go_simp
          refine (HLk.out _ hS).mono ?_
          rintro e1 w1 ⟨rfl, h9⟩
          have S1 : Below V5.heap.size V5 w1 := hS.trans (h9.mono hS.size)
          clear h9 hS
          refine hK.out _ _ S1 (fun hS => ?_)
          clear hK K S1
          refine wpAnyH_take (i := 9) (v := .bool false) rfl (by kernel_rfl) (by kernel_rfl) (by kernel_rfl) (fun _ _ _ h => h) (Or.inl ⟨by kernel_rfl, fun u hSw => (by go_simp)⟩) hS ?_
          change wpAnyH _ _ _ _ _ _ _ (Act.put _ (some 90) _) _
          simp only [Act.put]
          try simp only [List.setIfInBounds_toArray, List.set_cons_zero, List.set_cons_succ]
          refine wpAnyH_take (i := 10) (v := .bool false) rfl (by kernel_rfl) (by kernel_rfl) (by kernel_rfl) (fun _ _ _ h => h) (Or.inl ⟨by kernel_rfl, fun u hSw => (by go_simp)⟩) hS ?_
          change wpAnyH _ _ _ _ _ _ _ (Act.put _ (some 91) _) _
          simp only [Act.put]
          try simp only [List.setIfInBounds_toArray, List.set_cons_zero, List.set_cons_succ]
          refine wpAnyH_take (i := 11) (v := .slice (some ad) n10 c9) rfl (by kernel_rfl) (by kernel_rfl) (by kernel_rfl) (fun _ _ _ h => h) (Or.inl ⟨by kernel_rfl, fun u hSw => (by go_simp)⟩) hS ?_
          change wpAnyH _ _ _ _ _ _ _ (Act.put _ (some 92) _) _
          simp only [Act.put]
          try simp only [List.setIfInBounds_toArray, List.set_cons_zero, List.set_cons_succ]
          refine wpAnyH_take (i := 12) (v := .int .i64 (k : Int)) rfl (by kernel_rfl) (by kernel_rfl) (by kernel_rfl) (fun _ _ _ h => h) (Or.inl ⟨by kernel_rfl, fun u hSw => (by go_simp)⟩) hS ?_
          change wpAnyH _ _ _ _ _ _ _ (Act.put _ (some 93) _) _
          simp only [Act.put]
          try simp only [List.setIfInBounds_toArray, List.set_cons_zero, List.set_cons_succ]
          refine wpAnyH_take (i := 13) (v := .pointer (some (ad.add (k * 6)))) rfl (by kernel_rfl) (by kernel_rfl) (by kernel_rfl) (fun _ _ _ h => h) (Or.inl ⟨by kernel_rfl, fun u hSw => (by go_simp)⟩) hS ?_
          change wpAnyH _ _ _ _ _ _ _ (Act.put _ (some 94) _) _
          simp only [Act.put]
          try simp only [List.setIfInBounds_toArray, List.set_cons_zero, List.set_cons_succ]
          refine wpAnyH_take (i := 14) (v := .pointer (some (ad.add (k * 6)))) rfl (by kernel_rfl) (by kernel_rfl) (by kernel_rfl) (fun _ _ _ h => h) (Or.inl ⟨by kernel_rfl, fun u hSw => (by go_simp)⟩) hS ?_
          change wpAnyH _ _ _ _ _ _ _ (Act.put _ (some 95) _) _
          simp only [Act.put]
          try simp only [List.setIfInBounds_toArray, List.set_cons_zero, List.set_cons_succ]
          refine wpAnyH_take (i := 15) (v := .slice A1 n2 c1) rfl (by kernel_rfl) (by kernel_rfl) (by kernel_rfl) (fun _ _ _ h => h) (Or.inl ⟨by kernel_rfl, fun u hSw => (by obtain ⟨q0, q1, q2, q3, q4, q5⟩ := HF1.out u hSw; go_simp)⟩) hS ?_
          change wpAnyH _ _ _ _ _ _ _ (Act.put _ (some 96) _) _
          simp only [Act.put]
          try simp only [List.setIfInBounds_toArray, List.set_cons_zero, List.set_cons_succ]
          refine wpAnyH_take (i := 16) (v := .slice (some ae) n10 c10) rfl (by kernel_rfl) (by kernel_rfl) (by kernel_rfl) (fun _ _ _ h => h) (Or.inl ⟨by kernel_rfl, fun u hSw => (by go_simp)⟩) hS ?_
          change wpAnyH _ _ _ _ _ _ _ (Act.put _ (some 97) _) _
          simp only [Act.put]
          try simp only [List.setIfInBounds_toArray, List.set_cons_zero, List.set_cons_succ]
          refine wpAnyH_take (i := 17) (v := .int .i64 (k : Int)) rfl (by kernel_rfl) (by kernel_rfl) (by kernel_rfl) (fun _ _ _ h => h) (Or.inl ⟨by kernel_rfl, fun u hSw => (by go_simp)⟩) hS ?_
          change wpAnyH _ _ _ _ _ _ _ (Act.put _ (some 98) _) _
          simp only [Act.put]
          try simp only [List.setIfInBounds_toArray, List.set_cons_zero, List.set_cons_succ]
          refine wpAnyH_take (i := 18) (v := .pointer (some (ae.add (k * 6)))) rfl (by kernel_rfl) (by kernel_rfl) (by kernel_rfl) (fun _ _ _ h => h) (Or.inl ⟨by kernel_rfl, fun u hSw => (by go_simp)⟩) hS ?_
          change wpAnyH _ _ _ _ _ _ _ (Act.put _ (some 99) _) _
          simp only [Act.put]
          try simp only [List.setIfInBounds_toArray, List.set_cons_zero, List.set_cons_succ]
          refine wpAnyH_take (i := 19) (v := .pointer (some (ae.add (k * 6)))) rfl (by kernel_rfl) (by kernel_rfl) (by kernel_rfl) (fun _ _ _ h => h) (Or.inl ⟨by kernel_rfl, fun u hSw => (by go_simp)⟩) hS ?_
          change wpAnyH _ _ _ _ _ _ _ (Act.put _ (some 100) _) _
          simp only [Act.put]
          try simp only [List.setIfInBounds_toArray, List.set_cons_zero, List.set_cons_succ]
          refine wpAnyH_take (i := 20) (v := .slice A2 n2 c2') rfl (by kernel_rfl) (by kernel_rfl) (by kernel_rfl) (fun _ _ _ h => h) (Or.inl ⟨by kernel_rfl, fun u hSw => (by obtain ⟨q0, q1, q2, q3, q4, q5⟩ := HF2.out u hSw; go_simp)⟩) hS ?_
          change wpAnyH _ _ _ _ _ _ _ (Act.put _ (some 101) _) _
          simp only [Act.put]
          try simp only [List.setIfInBounds_toArray, List.set_cons_zero, List.set_cons_succ]
          refine wpAnyH_ready (rs := [21]) (by kernel_rfl) (by simp) ?_
          refine AllReadyH.cons rfl (fun K hK => ?_) AllReadyH.nil
          go_simp
          refine (HEq.out _ hS).mono ?_
          rintro e2 w2 ⟨rfl, h9⟩
          have S2 : Below V5.heap.size V5 w2 := hS.trans (h9.mono hS.size)
          clear h9 hS
          refine hK.out _ _ S2 (fun hS => ?_)
          clear hK K S2
          refine wpAnyH_take (i := 22) (v := .bool false) rfl (by kernel_rfl) (by kernel_rfl) (by kernel_rfl) (fun _ _ _ h => h) (Or.inl ⟨by kernel_rfl, fun u hSw => (by go_simp)⟩) hS ?_
          change wpAnyH _ _ _ _ _ _ _ (Act.put _ (some 103) _) _
          simp only [Act.put]
          try simp only [List.setIfInBounds_toArray, List.set_cons_zero, List.set_cons_succ]
          refine wpAnyH_take (i := 23) (v := .bool false) rfl (by kernel_rfl) (by kernel_rfl) (by kernel_rfl) (fun _ _ _ h => h) (Or.inl ⟨by kernel_rfl, fun u hSw => (by go_simp)⟩) hS ?_
          change wpAnyH _ _ _ _ _ _ _ (Act.put _ (some 104) _) _
          simp only [Act.put]
          try simp only [List.setIfInBounds_toArray, List.set_cons_zero, List.set_cons_succ]
          refine wpAnyH_done (by kernel_rfl) ?_ _
          have HB8 := Lib.hid hS
          clear hS
          go_wp2_with fail
          go_roundw
          case rel => exact ⟨k + 1, by omega, by go_num, HB8⟩
          case measure => simp [intOf] <;> omega
        · obtain rfl : k = n10 := by omega
          have HBe := Lib.hid (HGB.out.trans (HB.out.mono HGB.out.size))
          go_wp2_with fail
          go_ret
          exact ⟨rfl, HBe.out⟩

end Go.Proofs.Ytniilfcbiliegaa
