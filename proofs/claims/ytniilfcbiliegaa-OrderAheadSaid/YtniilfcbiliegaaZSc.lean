/-
  OrderAhead's walk: who stands ahead of whom, who is first, who has a member. No statement is proved here.
-/
import Derived.Test.YtniilfcbiliegaaZSb
import Derived.Test.YtniilfcbiliegaaZOr
namespace Go.Proofs.Ytniilfcbiliegaa
open Go.RowKit Go.Maps

theorem place_same {E E' : List En} (h : E.map et = E'.map et) {i : Int} : placeE E i = placeE E' i := by
  have e : ∀ l : List En, l.findIdx (hasE · i) = (l.map et).findIdx fun x => decide (i ∈ x.1) := fun l => by rw [List.findIdx_map]; rfl
  have hl : E.length = E'.length := by have := congrArg List.length h; simpa using this
  unfold placeE
  rw [e E, e E', h, hl]
def firstSe (b : Option Et) (x : Et) : Option Et := match b with
  | none => if canE x = true then some x else none
  | some y => if aheadE x y = true then some x else some y
theorem first_map : ∀ (l : List En) (b : Option En), (l.foldl firstS b).map et = (l.map et).foldl firstSe (b.map et)
  | [], b => rfl
  | x :: l, b => by
    rw [List.foldl_cons, List.map_cons, List.foldl_cons, first_map l]
    congr 1
    cases b with
    | none => unfold firstS firstSe; simp only [Option.map_none]; split <;> rfl
    | some y => unfold firstS firstSe; simp only [Option.map_some]; split <;> rfl
theorem first_two {E E' : List En} (h : E.map et = E'.map et) : (firstK E).map et = (firstK E').map et := by
  unfold firstK
  rw [first_map, first_map, h]
theorem ints_at {w : World} {A : Option Addr} {n : Nat} {is : List Int} (h : Reads w w.heap.size 1 A n (vs is)) {k : Nat} {i : Int} (hx : is[k]? = some i) : ∃ ad, A = some ad ∧ w.cell? (ad.add k) = some (.int .i64 i) := by
  have hl := h.1
  rw [length_vs] at hl
  have hk := (List.getElem?_eq_some_iff.1 hx).1
  obtain ⟨ad, e, _, hc⟩ := h.2 (by omega)
  exact ⟨ad, e, hc k _ (by unfold vs; rw [List.getElem?_map, hx]; rfl)⟩

set_option maxRecDepth 100000 in
set_option maxHeartbeats 16000000 in
theorem ahead_walk (A : Option Addr) (n c : Nat) (l : List En) (A' : Option Addr) (n' c' : Nat) (is : List Int) (w : World) (hA : EA w A n l) (hu : ∀ e ∈ l, e.2.1.1 < 2 ^ 64 ∧ e.2.1.2.1 < 2 ^ 64 ∧ e.2.1.2.2 < 2 ^ 64) (hI : Reads w w.heap.size 1 A' n' (vs is)) :
    Calls Try.prog 4 #[.slice A n c, .slice A' n' c'] w (Said (.bool true) w) := by
  have HWk := Lib.hid (wakes_any w)
  have HFw := Lib.hid (fun (u : World) (h : Below w.heap.size w u) => few_any A n c l u (hA.below h))
  have HU := Lib.hid hu
  have HI := Lib.hid (fun (u : World) (h : Below w.heap.size w u) => ((hI.below h).more h.size : Reads u u.heap.size 1 A' n' (vs is)))
  have HLI : Hid (is.length = n') := Lib.hid (by have := hI.1; rw [length_vs] at this; omega)
  clear hA hu hI
  go_enter Try.func4, Try.ntmps4
  go_wp2_with fail
  refine HWk.out.mono ?_
  rintro e w1 ⟨rfl, GB⟩
  go_wp2_with fail
  refine (HFw.out _ GB).mono ?_
  rintro e w2 ⟨A5, n5, c5, E1, rfl, S1, e1, hn5, h9⟩
  replace GB := GB.trans (h9.mono GB.size)
  clear h9
  go_wp2_with fail
  refine (HFw.out _ GB).mono ?_
  rintro e V ⟨A6, n6, c6, E2, rfl, S2, e2, hn6, h9⟩
  have hn : n6 = n5 := by
    have h1 := S1.count
    have h2 := S2.count
    rw [e1] at h1
    rw [e2] at h2
    omega
  subst hn
  have HUF : ∀ E : List En, E.map et = fewF l → (∀ e ∈ E, e.2.1.1 < 2 ^ 64 ∧ e.2.1.2.1 < 2 ^ 64 ∧ e.2.1.2.2 < 2 ^ 64) ∧ ∀ e ∈ E, e.1.2.2.2.length ≤ 17 := fun E hE => by
    have hm : ∀ e ∈ E, ∃ y ∈ l, shE (et y) = et e := fun e he => by
      have hm : et e ∈ fewF l := by rw [← hE]; exact List.mem_map.2 ⟨e, he, rfl⟩
      unfold fewF at hm
      exact List.mem_map.1 (List.mem_of_mem_take hm)
    refine ⟨fun e he => ?_, fun e he => ?_⟩
    · obtain ⟨y, hy, e2⟩ := hm e he
      have e3 : e.2 = y.2 := (congrArg Prod.snd e2).symm
      rw [e3]
      exact HU.out y hy
    · obtain ⟨y, hy, e2⟩ := hm e he
      have e3 : e.1.2.2.2 = y.1.2.2.2.take 17 := (congrArg Prod.fst e2).symm
      rw [e3, List.length_take]
      omega
  have S1' := S1.below h9
  have HQ1 := Lib.hid (S1'.eq (by omega) (HUF E1 e1).1)
  have HQ2 := Lib.hid (S2.eq (by omega) (HUF E2 e2).1)
  have HN1 : Hid (∀ e ∈ E1, e.1.2.1 ≤ 1000) := Lib.hid (fun e he => by have h1 := HQ1.out.len_mem he; have h2 := (HUF E1 e1).2 e he; omega)
  have HN2 : Hid (∀ e ∈ E2, e.1.2.1 ≤ 1000) := Lib.hid (fun e he => by have h1 := HQ2.out.len_mem he; have h2 := (HUF E2 e2).2 e he; omega)
  have HEE := Lib.hid (show E1.map et = E2.map et from e1.trans e2.symm)
  have HR1 : Hid (ER V A5 n6 E1) := Lib.hid ⟨HQ1.out.row, by omega, fun k e he => ⟨HQ1.out.mem e (List.mem_of_getElem? he), HN1.out e (List.mem_of_getElem? he)⟩⟩
  have HR2 : Hid (ER V A6 n6 E2) := Lib.hid ⟨HQ2.out.row, by omega, fun k e he => ⟨HQ2.out.mem e (List.mem_of_getElem? he), HN2.out e (List.mem_of_getElem? he)⟩⟩
  have HGB := Lib.hid (GB.trans (h9.mono GB.size))
  clear GB h9 S1 S1' S2 e1 e2 HUF HFw HWk
  go_wp2_with fail
  go_loopw [29] (fun iv wr => ∃ k : Nat, k ≤ n6 ∧ iv = .int .i64 (k : Int) ∧ Hid (Below V.heap.size V wr)) (fun iv _ => n6 - (intOf iv).toNat)
  case atStart => exact ⟨0, by omega, rfl, Lib.hid (Below.refl _ _)⟩
  case round =>
    obtain ⟨k, hk, rfl, HB⟩ := hrel
    by_cases hlt : k < n6
    · obtain ⟨⟨⟨A1, n1, c1, is1⟩, ⟨h1, l1, x1⟩, o1, f1⟩, hx⟩ := elem_at (l := E1) (k := k) (by rw [HQ1.out.len]; exact hlt)
      have hm := List.mem_of_getElem? hx
      obtain ⟨u1, u2, u3⟩ := HQ1.out.u64 _ hm
      have HE1 := Lib.hid (And.intro u1 (And.intro u2 (And.intro u3 (And.intro (show is1.length = n1 from HQ1.out.len_mem hm) (And.intro (show n1 ≤ 1000 from HN1.out _ hm) (HQ1.out.mem _ hm))))))
      obtain ⟨ad, rfl, _, d0, d1, d2, d3, d4, d5⟩ := (HQ1.out.below HB.out).at_ hx
      have K8 := Blk.new wr 47 #[.slice A1 n1 c1, .int .u64 (h1 : Int), .int .u64 (l1 : Int), .int .u64 (x1 : Int), .int .u64 (o1 : Int), .bool f1]
      have B8 := HB.out.alloc HB.out.size (.cells #[.slice A1 n1 c1, .int .u64 (h1 : Int), .int .u64 (l1 : Int), .int .u64 (x1 : Int), .int .u64 (o1 : Int), .bool f1] 47)
      have i1 : (0 : Int) ≤ (k : Int) := by omega
      have i2 : (k : Int) < (n6 : Int) := by omega
      clear hx hm u1 u2 u3
      go_upto_region 7 with fail
      obtain ⟨g8, hg8⟩ : ∃ g, wr.heap.size = g := ⟨_, rfl⟩
      obtain ⟨V1, hV1⟩ : ∃ V1, wr.alloc (.cells #[.slice A1 n1 c1, .int .u64 (h1 : Int), .int .u64 (l1 : Int), .int .u64 (x1 : Int), .int .u64 (o1 : Int), .bool f1] 47) = V1 := ⟨_, rfl⟩
      rw [hV1] at K8 B8 ⊢
      rw [hg8] at K8 ⊢
      have HV1 := Lib.hid (And.intro B8 K8)
      clear hV1 hg8 K8 B8 HB d0 d1 d2 d3 d4 d5
      go_wp2_with fail
      go_loopw [35] (fun iv wr => ∃ j : Nat, j ≤ n6 ∧ iv = .int .i64 (j : Int) ∧ Hid (Below V1.heap.size V1 wr)) (fun iv _ => n6 - (intOf iv).toNat)
      case atStart => exact ⟨0, by omega, rfl, Lib.hid (Below.refl _ _)⟩
      case round =>
        obtain ⟨j, hj, rfl, HB⟩ := hrel
        by_cases hjt : j < n6
        · obtain ⟨⟨⟨A2, n2, c2, is2⟩, ⟨h2, l2, x2⟩, o2, f2⟩, hy⟩ := elem_at (l := E1) (k := j) (by rw [HQ1.out.len]; exact hjt)
          have hm := List.mem_of_getElem? hy
          obtain ⟨v1, v2, v3⟩ := HQ1.out.u64 _ hm
          have hl2 : is2.length = n2 := HQ1.out.len_mem hm
          have hn2 : n2 ≤ 1000 := HN1.out _ hm
          have hr2 : Reads V V.heap.size 1 A2 n2 (vs is2) := HQ1.out.mem _ hm
          have HGV := Lib.hid (HV1.out.1.trans (HB.out.mono HV1.out.1.size))
          obtain ⟨ad2, ee, _, d0, d1, d2, d3, d4, d5⟩ := (HQ1.out.below HGV.out).at_ hy
          obtain rfl : ad = ad2 := Option.some.inj ee
          have HP := Lib.hid (fun (u : World) (hu : Below V.heap.size V u) => ahead_any A1 n1 c1 h1 l1 x1 o1 f1 is1 A2 n2 c2 h2 l2 x2 o2 f2 is2 u HE1.out.1 HE1.out.2.1 HE1.out.2.2.1 v1 v2 v3 ((HE1.out.2.2.2.2.2.below hu).more hu.size) ((hr2.below hu).more hu.size))
          have HD := Lib.hid (fun (u : World) (hu : Below V.heap.size V u) => eahead_any A1 n1 c1 h1 l1 x1 o1 f1 is1 A2 n2 c2 h2 l2 x2 o2 f2 is2 u ⟨(HE1.out.2.2.2.2.2.below hu).more hu.size, HE1.out.2.2.2.2.1⟩ ⟨(hr2.below hu).more hu.size, hn2⟩ HE1.out.1 HE1.out.2.1 HE1.out.2.2.1 v1 v2 v3)
          rw [ahead_doc HE1.out.2.2.2.1 hl2 HE1.out.2.1 v2] at HD
          obtain ⟨v, hv⟩ : ∃ v, aheadE (is1, (h1, l1, x1), o1, f1) (is2, (h2, l2, x2), o2, f2) = v := ⟨_, rfl⟩
          rw [hv] at HP HD
          unfold agE at HP HD
          have KA := (HV1.out.2.below HB.out HV1.out.2.lt).alloc (.cells #[.slice A2 n2 c2, .int .u64 (h2 : Int), .int .u64 (l2 : Int), .int .u64 (x2 : Int), .int .u64 (o2 : Int), .bool f2] 47)
          have KB := Blk.new wr 47 #[.slice A2 n2 c2, .int .u64 (h2 : Int), .int .u64 (l2 : Int), .int .u64 (x2 : Int), .int .u64 (o2 : Int), .bool f2]
          have B8 := HB.out.alloc HB.out.size (.cells #[.slice A2 n2 c2, .int .u64 (h2 : Int), .int .u64 (l2 : Int), .int .u64 (x2 : Int), .int .u64 (o2 : Int), .bool f2] 47)
          have vv : (v != v) = false := by simp
          have j1 : (0 : Int) ≤ (j : Int) := by omega
          have j2 : (j : Int) < (n6 : Int) := by omega
          clear hy hm v1 v2 v3 hl2 hn2 hr2 ee hv
          go_upto_region 10 with fail
          obtain ⟨g10, hg10⟩ : ∃ g, wr.heap.size = g := ⟨_, rfl⟩
          obtain ⟨V2, hV2⟩ : ∃ V2, wr.alloc (.cells #[.slice A2 n2 c2, .int .u64 (h2 : Int), .int .u64 (l2 : Int), .int .u64 (x2 : Int), .int .u64 (o2 : Int), .bool f2] 47) = V2 := ⟨_, rfl⟩
          rw [hV2] at KA KB B8 ⊢
          rw [hg10] at KB ⊢
          have HV2 := Lib.hid (And.intro (HV1.out.1.trans (B8.mono HV1.out.1.size)) B8)
          clear hV2 hg10 B8 d0 d1 d2 d3 d4 d5
          refine wp_region_held_drew (S := fun u => Below V2.heap.size V2 u ∧ Blk u g8 47 #[.slice A1 n1 c1, .int .u64 (h1 : Int), .int .u64 (l1 : Int), .int .u64 (x1 : Int), .int .u64 (o1 : Int), .bool f1] ∧ Blk u g10 47 #[.slice A2 n2 c2, .int .u64 (h2 : Int), .int .u64 (l2 : Int), .int .u64 (x2 : Int), .int .u64 (o2 : Int), .bool f2]) (by kernel_rfl) ⟨(Below.refl _ _).drew, KA, KB⟩ (fun hS => ?_)
          clear KA KB
          generalize World.drew V2 = V8 at hS ⊢
          refine wpAnyH_take (i := 0) (v := .agg #[.slice A1 n1 c1, .int .u64 (h1 : Int), .int .u64 (l1 : Int), .int .u64 (x1 : Int), .int .u64 (o1 : Int), .bool f1]) rfl (by kernel_rfl) (by kernel_rfl) (by kernel_rfl) (fun _ _ _ h => h) (Or.inl ⟨by kernel_rfl, fun u hSw => (by have q0 := hSw.2.1.cell 0; have q1 := hSw.2.1.cell 1; have q2 := hSw.2.1.cell 2; have q3 := hSw.2.1.cell 3; have q4 := hSw.2.1.cell 4; have q5 := hSw.2.1.cell 5; go_simp)⟩) hS ?_
          change wpAnyH _ _ _ _ _ _ _ (Act.put _ (some 39) _) _
          simp only [Act.put]
          try simp only [List.setIfInBounds_toArray, List.set_cons_zero, List.set_cons_succ]
          refine wpAnyH_take (i := 1) (v := .agg #[.slice A2 n2 c2, .int .u64 (h2 : Int), .int .u64 (l2 : Int), .int .u64 (x2 : Int), .int .u64 (o2 : Int), .bool f2]) rfl (by kernel_rfl) (by kernel_rfl) (by kernel_rfl) (fun _ _ _ h => h) (Or.inl ⟨by kernel_rfl, fun u hSw => (by have q0 := hSw.2.2.cell 0; have q1 := hSw.2.2.cell 1; have q2 := hSw.2.2.cell 2; have q3 := hSw.2.2.cell 3; have q4 := hSw.2.2.cell 4; have q5 := hSw.2.2.cell 5; go_simp)⟩) hS ?_
          change wpAnyH _ _ _ _ _ _ _ (Act.put _ (some 40) _) _
          simp only [Act.put]
          try simp only [List.setIfInBounds_toArray, List.set_cons_zero, List.set_cons_succ]
          refine wpAnyH_take (i := 3) (v := .agg #[.slice A1 n1 c1, .int .u64 (h1 : Int), .int .u64 (l1 : Int), .int .u64 (x1 : Int), .int .u64 (o1 : Int), .bool f1]) rfl (by kernel_rfl) (by kernel_rfl) (by kernel_rfl) (fun _ _ _ h => h) (Or.inl ⟨by kernel_rfl, fun u hSw => (by have q0 := hSw.2.1.cell 0; have q1 := hSw.2.1.cell 1; have q2 := hSw.2.1.cell 2; have q3 := hSw.2.1.cell 3; have q4 := hSw.2.1.cell 4; have q5 := hSw.2.1.cell 5; go_simp)⟩) hS ?_
          change wpAnyH _ _ _ _ _ _ _ (Act.put _ (some 42) _) _
          simp only [Act.put]
          try simp only [List.setIfInBounds_toArray, List.set_cons_zero, List.set_cons_succ]
          refine wpAnyH_take (i := 4) (v := .agg #[.slice A2 n2 c2, .int .u64 (h2 : Int), .int .u64 (l2 : Int), .int .u64 (x2 : Int), .int .u64 (o2 : Int), .bool f2]) rfl (by kernel_rfl) (by kernel_rfl) (by kernel_rfl) (fun _ _ _ h => h) (Or.inl ⟨by kernel_rfl, fun u hSw => (by have q0 := hSw.2.2.cell 0; have q1 := hSw.2.2.cell 1; have q2 := hSw.2.2.cell 2; have q3 := hSw.2.2.cell 3; have q4 := hSw.2.2.cell 4; have q5 := hSw.2.2.cell 5; go_simp)⟩) hS ?_
          change wpAnyH _ _ _ _ _ _ _ (Act.put _ (some 43) _) _
          simp only [Act.put]
          try simp only [List.setIfInBounds_toArray, List.set_cons_zero, List.set_cons_succ]
          refine wpAnyH_ready (rs := [2]) (by kernel_rfl) (by simp) ?_
          refine AllReadyH.cons rfl (fun K hK => ?_) AllReadyH.nil
          go_simp
          refine (HP.out _ (HV2.out.1.trans (hS.1.mono HV2.out.1.size))).mono ?_
          rintro e1 w1 ⟨rfl, h9⟩
          have S1 : Below V2.heap.size V2 w1 ∧ Blk w1 g8 47 #[.slice A1 n1 c1, .int .u64 (h1 : Int), .int .u64 (l1 : Int), .int .u64 (x1 : Int), .int .u64 (o1 : Int), .bool f1] ∧ Blk w1 g10 47 #[.slice A2 n2 c2, .int .u64 (h2 : Int), .int .u64 (l2 : Int), .int .u64 (x2 : Int), .int .u64 (o2 : Int), .bool f2] := ⟨hS.1.trans (h9.mono hS.1.size), hS.2.1.below h9 hS.2.1.lt, hS.2.2.below h9 hS.2.2.lt⟩
          clear h9 hS
          refine hK.out _ _ S1 (fun hS => ?_)
          clear hK K S1
          refine wpAnyH_ready (rs := [5]) (by kernel_rfl) (by simp) ?_
          refine AllReadyH.cons rfl (fun K hK => ?_) AllReadyH.nil
          go_simp
          refine (HD.out _ (HV2.out.1.trans (hS.1.mono HV2.out.1.size))).mono ?_
          rintro e2 w2 ⟨rfl, h9⟩
          have S2 : Below V2.heap.size V2 w2 ∧ Blk w2 g8 47 #[.slice A1 n1 c1, .int .u64 (h1 : Int), .int .u64 (l1 : Int), .int .u64 (x1 : Int), .int .u64 (o1 : Int), .bool f1] ∧ Blk w2 g10 47 #[.slice A2 n2 c2, .int .u64 (h2 : Int), .int .u64 (l2 : Int), .int .u64 (x2 : Int), .int .u64 (o2 : Int), .bool f2] := ⟨hS.1.trans (h9.mono hS.1.size), hS.2.1.below h9 hS.2.1.lt, hS.2.2.below h9 hS.2.2.lt⟩
          clear h9 hS
          refine hK.out _ _ S2 (fun hS => ?_)
          clear hK K S2
          refine wpAnyH_take (i := 6) (v := .bool false) rfl (by kernel_rfl) (by kernel_rfl) (by kernel_rfl) (fun _ _ _ h => h) (Or.inl ⟨by kernel_rfl, fun u hSw => (by go_simp)⟩) hS ?_
          change wpAnyH _ _ _ _ _ _ _ (Act.put _ (some 45) _) _
          simp only [Act.put]
          try simp only [List.setIfInBounds_toArray, List.set_cons_zero, List.set_cons_succ]
          refine wpAnyH_done (by kernel_rfl) ?_ _
          have HB8 := Lib.hid hS.1
          clear hS
          go_wp2_with fail
          go_roundw
          case rel => exact ⟨j + 1, by omega, by go_num, Lib.hid (HV2.out.2.trans (HB8.out.mono HV2.out.2.size))⟩
          case measure => simp [intOf] <;> omega
        · obtain rfl : j = n6 := by omega
          have HBX := Lib.hid (HV1.out.1.trans (HB.out.mono HV1.out.1.size))
          go_wp2_with fail
          go_roundw
          case rel => exact ⟨k + 1, by omega, by go_num, HBX⟩
          case measure => simp [intOf] <;> omega
    · obtain rfl : k = n6 := by omega
      have HF1 := Lib.hid (fun (u : World) (hu : Below V.heap.size V u) => first_any A5 k c5 E1 u (HQ1.out.below hu) HN1.out)
      have HF2 := Lib.hid (fun (u : World) (hu : Below V.heap.size V u) => efirst_any A6 k c6 E2 u (HQ2.out.below hu) HN2.out)
      have hft := first_two HEE.out
      rw [first_same] at HF2
      go_wp2_with fail
      refine (HF1.out _ HB.out).mono ?_
      cases hb1 : firstK E1 with
      | none =>
        have hb2 : firstK E2 = none := by rw [hb1] at hft; cases h : firstK E2 with
          | none => rfl
          | some y => rw [h] at hft; cases hft
        rw [hb2] at HF2
        rintro e w3 ⟨h9, he⟩
        obtain rfl : e = _ := he
        have HV3 := Lib.hid (HB.out.trans (h9.mono HB.out.size))
        have HSO := Lib.hid (fun (u : World) (_ : Below w3.heap.size w3 u) => esame_one none 0 0 none 0 0 0 0 0 false [] u ⟨Reads.none_, by omega⟩ ⟨Reads.none_, by omega⟩)
        unfold agE at HSO
        clear hft hb1 hb2 HF1 h9
        have KA := Blk.new w3 47 #[.slice none 0 0, .int .u64 0, .int .u64 0, .int .u64 0, .int .u64 0, .bool false]
        have BA := (Below.refl w3.heap.size w3).alloc (Nat.le_refl _) (.cells #[.slice none 0 0, .int .u64 0, .int .u64 0, .int .u64 0, .int .u64 0, .bool false] 47)
        go_wp2_with fail
        refine (HF2.out _ (HV3.out.trans (BA.mono HV3.out.size))).mono ?_
        rintro e w4 ⟨h8, he⟩
        obtain rfl : e = _ := he
        have KB := Blk.new w4 47 #[.slice none 0 0, .int .u64 0, .int .u64 0, .int .u64 0, .int .u64 0, .bool false]
        replace KA := (KA.below h8 KA.lt).alloc (.cells #[.slice none 0 0, .int .u64 0, .int .u64 0, .int .u64 0, .int .u64 0, .bool false] 47)
        have BY := BA.trans (h8.mono BA.size)
        replace BY := BY.alloc BY.size (.cells #[.slice none 0 0, .int .u64 0, .int .u64 0, .int .u64 0, .int .u64 0, .bool false] 47)
        have BYV := HV3.out.trans (BY.mono HV3.out.size)
        clear h8 BA HF2
        have z0 := KA.cell 0
        have z1 := KA.cell 1
        have z2 := KA.cell 2
        have z3 := KA.cell 3
        have z4 := KA.cell 4
        have z5 := KA.cell 5
        have y0 := KB.cell 0
        have y1 := KB.cell 1
        have y2 := KB.cell 2
        have y3 := KB.cell 3
        have y4 := KB.cell 4
        have y5 := KB.cell 5
        have vb : ((false : Bool) != false) = false := by simp
        clear KA KB
        go_wp2_with fail
        refine (HSO.out _ BY).mono ?_
        rintro e w8 ⟨rfl, h9⟩
        have HV6 := Lib.hid (BYV.trans (h9.mono BYV.size))
        clear h9 BY BYV vb z0 y0 z1 y1 z2 y2 z3 y3 z4 y4 z5 y5
        go_upto_region 18 with fail
        obtain ⟨V6, hV6⟩ : ∃ V6, w8 = V6 := ⟨_, rfl⟩
        rw [hV6] at HV6 ⊢
        clear hV6
        go_wp2_with fail
        go_loopw [69] (fun iv wr => ∃ q : Nat, q ≤ n' ∧ q ≤ 12 ∧ iv = .int .i64 (q : Int) ∧ Hid (Below V6.heap.size V6 wr)) (fun iv _ => n' - (intOf iv).toNat)
        case atStart => exact ⟨0, by omega, by omega, rfl, Lib.hid (Below.refl _ _)⟩
        case round =>
          obtain ⟨q, hq, hq12, rfl, HB⟩ := hrel
          have HBL := Lib.hid (HV6.out.trans (HB.out.mono HV6.out.size))
          by_cases hqt : q < n'
          · obtain ⟨id, hid⟩ := elem_at (l := is) (k := q) (by rw [HLI.out]; exact hqt)
            have hBW := HGB.out.trans (HBL.out.mono HGB.out.size)
            obtain ⟨a1, rfl, e0⟩ := ints_at (HI.out _ hBW) hid
            have j1 : (0 : Int) ≤ (q : Int) := by omega
            have j2 : (q : Int) < (n' : Int) := by omega
            by_cases h12 : q = 12
            · have c12 : ((q : Int) == 12) = true := by simp; omega
              clear hid hBW
              clear h12
              have HSm := Lib.hid (esame_any A5 k c5 E1 A6 c6 E2 wr (HQ1.out.below HBL.out) (HQ2.out.below HBL.out) HN1.out HEE.out)
              have HGL := Lib.hid (HGB.out.trans (HBL.out.mono HGB.out.size))
              go_wp2_with fail
              refine HSm.out.mono ?_
              rintro e w9 ⟨rfl, h9⟩
              have HBe := Lib.hid (HGL.out.trans (h9.mono HGL.out.size))
              clear h9
              go_wp2_with fail
              go_ret
              exact ⟨rfl, HBe.out⟩
            · have c12 : ((q : Int) == 12) = false := by simp; omega
              have HPl := Lib.hid (place_any A5 k c5 E1 id wr (HR1.out.below HBL.out))
              have HPd := Lib.hid (fun (u : World) (hu : Below V.heap.size V u) => eplace_any A6 k c6 E2 id u (HR2.out.below hu))
              rw [place_same HEE.out] at HPl
              obtain ⟨⟨pk, pb⟩, hpk⟩ : ∃ p, placeE E2 id = p := ⟨_, rfl⟩
              rw [hpk] at HPl HPd
              have vk : ((pk : Int) != (pk : Int)) = false := by simp
              have vb : (pb != pb) = false := by simp
              clear hid hpk hBW
              go_wp2_with fail
              refine HPl.out.mono ?_
              rintro e w8 ⟨rfl, h9⟩
              have HB9 := Lib.hid (HB.out.trans (h9.mono HB.out.size))
              clear h9 e0
              go_wp2_with fail
              refine (HPd.out _ (HV6.out.trans (HB9.out.mono HV6.out.size))).mono ?_
              rintro e w9 ⟨rfl, h9⟩
              have HB10 := Lib.hid (HB9.out.trans (h9.mono HB9.out.size))
              clear h9
              go_wp2_with fail
              go_roundw
              case rel => exact ⟨q + 1, by omega, by omega, by go_num, HB10⟩
              case measure => simp [intOf] <;> omega
          · obtain rfl : q = n' := by omega
            have HSm := Lib.hid (esame_any A5 k c5 E1 A6 c6 E2 wr (HQ1.out.below HBL.out) (HQ2.out.below HBL.out) HN1.out HEE.out)
            have HGL := Lib.hid (HGB.out.trans (HBL.out.mono HGB.out.size))
            go_wp2_with fail
            refine HSm.out.mono ?_
            rintro e w9 ⟨rfl, h9⟩
            have HBe := Lib.hid (HGL.out.trans (h9.mono HGL.out.size))
            clear h9
            go_wp2_with fail
            go_ret
            exact ⟨rfl, HBe.out⟩
      | some y1 =>
        obtain ⟨y2, hb2, hyy⟩ : ∃ y2, firstK E2 = some y2 ∧ et y1 = et y2 := by
          rw [hb1] at hft
          cases h : firstK E2 with
          | none => rw [h] at hft; cases hft
          | some y => rw [h] at hft; exact ⟨y, rfl, Option.some.inj hft⟩
        rw [hb2] at HF2
        obtain ⟨q1, hq1, _⟩ := (best_first E1).yes y1 hb1
        obtain ⟨q2, hq2, _⟩ := (best_first E2).yes y2 hb2
        obtain ⟨⟨A1, n1, c1, is1⟩, ⟨h1, l1, x1⟩, o1, f1⟩ := y1
        obtain ⟨⟨A2, n2, c2, is2⟩, ⟨h2, l2, x2⟩, o2, f2⟩ := y2
        obtain ⟨rfl, ⟨rfl, rfl, rfl⟩, rfl, rfl⟩ : is1 = is2 ∧ (h1 = h2 ∧ l1 = l2 ∧ x1 = x2) ∧ o1 = o2 ∧ f1 = f2 := by
          have : (is1, (h1, l1, x1), o1, f1) = (is2, (h2, l2, x2), o2, f2) := hyy
          simp only [Prod.mk.injEq] at this
          exact this
        have hl1 : is1.length = n1 := HQ1.out.len_mem (List.mem_of_getElem? hq1)
        have hl2 : is1.length = n2 := HQ2.out.len_mem (List.mem_of_getElem? hq2)
        obtain rfl : n1 = n2 := hl1.symm.trans hl2
        have hn1 : n1 ≤ 1000 := HN1.out _ (List.mem_of_getElem? hq1)
        have hm2 : Reads V V.heap.size 1 A2 n1 (vs is1) := HQ2.out.mem _ (List.mem_of_getElem? hq2)
        rintro e w3 ⟨h9, A3, c3, he, own9⟩
        obtain rfl : e = _ := he
        replace own9 : w3.ownsRow wr.heap.size 3 1 (.slice A3 n1 c3) n1 (vs is1) := own9
        have HV3 := Lib.hid (HB.out.trans (h9.mono HB.out.size))
        have HSO := Lib.hid (fun (u : World) (hu : Below w3.heap.size w3 u) => esame_one A3 n1 c3 A2 c2 h1 l1 x1 o1 f1 is1 u ⟨((Reads.of_own own9).below hu).more hu.size, hn1⟩ ⟨(hm2.below (HV3.out.trans (hu.mono HV3.out.size))).more (HV3.out.trans (hu.mono HV3.out.size)).size, hn1⟩)
        unfold agE at HSO
        unfold agE
        unfold FirstR agE at HF2
        clear hft hb1 hb2 HF1 h9 own9 hm2 hn1 hl1 hl2 hq1 hq2 hyy
        have KA := Blk.new w3 47 #[.slice A3 n1 c3, .int .u64 (h1 : Int), .int .u64 (l1 : Int), .int .u64 (x1 : Int), .int .u64 (o1 : Int), .bool f1]
        have BA := (Below.refl w3.heap.size w3).alloc (Nat.le_refl _) (.cells #[.slice A3 n1 c3, .int .u64 (h1 : Int), .int .u64 (l1 : Int), .int .u64 (x1 : Int), .int .u64 (o1 : Int), .bool f1] 47)
        go_wp2_with fail
        refine (HF2.out _ (HV3.out.trans (BA.mono HV3.out.size))).mono ?_
        rintro e w4 ⟨h8, he⟩
        obtain rfl : e = _ := he
        have KB := Blk.new w4 47 #[.slice A2 n1 c2, .int .u64 (h1 : Int), .int .u64 (l1 : Int), .int .u64 (x1 : Int), .int .u64 (o1 : Int), .bool f1]
        replace KA := (KA.below h8 KA.lt).alloc (.cells #[.slice A2 n1 c2, .int .u64 (h1 : Int), .int .u64 (l1 : Int), .int .u64 (x1 : Int), .int .u64 (o1 : Int), .bool f1] 47)
        have BY := BA.trans (h8.mono BA.size)
        replace BY := BY.alloc BY.size (.cells #[.slice A2 n1 c2, .int .u64 (h1 : Int), .int .u64 (l1 : Int), .int .u64 (x1 : Int), .int .u64 (o1 : Int), .bool f1] 47)
        have BYV := HV3.out.trans (BY.mono HV3.out.size)
        clear h8 BA HF2
        have z0 := KA.cell 0
        have z1 := KA.cell 1
        have z2 := KA.cell 2
        have z3 := KA.cell 3
        have z4 := KA.cell 4
        have z5 := KA.cell 5
        have y0 := KB.cell 0
        have y1 := KB.cell 1
        have y2 := KB.cell 2
        have y3 := KB.cell 3
        have y4 := KB.cell 4
        have y5 := KB.cell 5
        have vb : ((true : Bool) != true) = false := by simp
        clear KA KB
        go_wp2_with fail
        refine (HSO.out _ BY).mono ?_
        rintro e w8 ⟨rfl, h9⟩
        have HV6 := Lib.hid (BYV.trans (h9.mono BYV.size))
        clear h9 BY BYV vb z0 y0 z1 y1 z2 y2 z3 y3 z4 y4 z5 y5
        go_upto_region 18 with fail
        obtain ⟨V6, hV6⟩ : ∃ V6, w8 = V6 := ⟨_, rfl⟩
        rw [hV6] at HV6 ⊢
        clear hV6
        go_wp2_with fail
        go_loopw [69] (fun iv wr => ∃ q : Nat, q ≤ n' ∧ q ≤ 12 ∧ iv = .int .i64 (q : Int) ∧ Hid (Below V6.heap.size V6 wr)) (fun iv _ => n' - (intOf iv).toNat)
        case atStart => exact ⟨0, by omega, by omega, rfl, Lib.hid (Below.refl _ _)⟩
        case round =>
          obtain ⟨q, hq, hq12, rfl, HB⟩ := hrel
          have HBL := Lib.hid (HV6.out.trans (HB.out.mono HV6.out.size))
          by_cases hqt : q < n'
          · obtain ⟨id, hid⟩ := elem_at (l := is) (k := q) (by rw [HLI.out]; exact hqt)
            have hBW := HGB.out.trans (HBL.out.mono HGB.out.size)
            obtain ⟨a1, rfl, e0⟩ := ints_at (HI.out _ hBW) hid
            have j1 : (0 : Int) ≤ (q : Int) := by omega
            have j2 : (q : Int) < (n' : Int) := by omega
            by_cases h12 : q = 12
            · have c12 : ((q : Int) == 12) = true := by simp; omega
              clear hid hBW
              clear h12
              have HSm := Lib.hid (esame_any A5 k c5 E1 A6 c6 E2 wr (HQ1.out.below HBL.out) (HQ2.out.below HBL.out) HN1.out HEE.out)
              have HGL := Lib.hid (HGB.out.trans (HBL.out.mono HGB.out.size))
              go_wp2_with fail
              refine HSm.out.mono ?_
              rintro e w9 ⟨rfl, h9⟩
              have HBe := Lib.hid (HGL.out.trans (h9.mono HGL.out.size))
              clear h9
              go_wp2_with fail
              go_ret
              exact ⟨rfl, HBe.out⟩
            · have c12 : ((q : Int) == 12) = false := by simp; omega
              have HPl := Lib.hid (place_any A5 k c5 E1 id wr (HR1.out.below HBL.out))
              have HPd := Lib.hid (fun (u : World) (hu : Below V.heap.size V u) => eplace_any A6 k c6 E2 id u (HR2.out.below hu))
              rw [place_same HEE.out] at HPl
              obtain ⟨⟨pk, pb⟩, hpk⟩ : ∃ p, placeE E2 id = p := ⟨_, rfl⟩
              rw [hpk] at HPl HPd
              have vk : ((pk : Int) != (pk : Int)) = false := by simp
              have vb : (pb != pb) = false := by simp
              clear hid hpk hBW
              go_wp2_with fail
              refine HPl.out.mono ?_
              rintro e w8 ⟨rfl, h9⟩
              have HB9 := Lib.hid (HB.out.trans (h9.mono HB.out.size))
              clear h9 e0
              go_wp2_with fail
              refine (HPd.out _ (HV6.out.trans (HB9.out.mono HV6.out.size))).mono ?_
              rintro e w9 ⟨rfl, h9⟩
              have HB10 := Lib.hid (HB9.out.trans (h9.mono HB9.out.size))
              clear h9
              go_wp2_with fail
              go_roundw
              case rel => exact ⟨q + 1, by omega, by omega, by go_num, HB10⟩
              case measure => simp [intOf] <;> omega
          · obtain rfl : q = n' := by omega
            have HSm := Lib.hid (esame_any A5 k c5 E1 A6 c6 E2 wr (HQ1.out.below HBL.out) (HQ2.out.below HBL.out) HN1.out HEE.out)
            have HGL := Lib.hid (HGB.out.trans (HBL.out.mono HGB.out.size))
            go_wp2_with fail
            refine HSm.out.mono ?_
            rintro e w9 ⟨rfl, h9⟩
            have HBe := Lib.hid (HGL.out.trans (h9.mono HGL.out.size))
            clear h9
            go_wp2_with fail
            go_ret
            exact ⟨rfl, HBe.out⟩

end Go.Proofs.Ytniilfcbiliegaa
