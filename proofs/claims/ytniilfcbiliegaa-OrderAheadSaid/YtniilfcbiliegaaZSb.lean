/-
  The document's First; its Same of rows that are one. No statement is proved here.
-/
import Derived.Test.YtniilfcbiliegaaZSa
namespace Go.Proofs.Ytniilfcbiliegaa
open Go.RowKit Go.Maps

/-- the first one, as it lies -/
def FirstR (b : Option En) (w : World) (e : Ending) (w' : World) : Prop := Below w.heap.size w w' ∧ match b with
  | none => e = .returned (.tuple #[.agg #[.slice none 0 0, .int .u64 0, .int .u64 0, .int .u64 0, .int .u64 0, .bool false], .bool false])
  | some y => e = .returned (.tuple #[.agg (agE y.1.1 y.1.2.1 y.1.2.2.1 y.2.1.1 y.2.1.2.1 y.2.1.2.2 y.2.2.1 y.2.2.2), .bool true])
def soFar (l : List En) (x : En) (j : Nat) : Bool := canE (et x) && (l.take j).all fun y => !aheadE (et y) (et x)
theorem so_next {l : List En} {x y : En} {j : Nat} (hy : l[j]? = some y) : soFar l x (j + 1) = (soFar l x j && !aheadE (et y) (et x)) := by
  unfold soFar
  rw [List.take_add_one, hy, List.all_append, Bool.and_assoc]
  simp

set_option maxRecDepth 100000 in
set_option maxHeartbeats 16000000 in
theorem efirst_any (A : Option Addr) (n c : Nat) (l : List En) (w : World) (hA : EQ w A n l) (hN : ∀ e ∈ l, e.1.2.1 ≤ 1000) : Calls Try.prog 21 #[.slice A n c] w (FirstR (firstD l) w) := by
  have HQ := Lib.hid hA
  have hn := hA.small
  have HL := Lib.hid hA.len
  have HN := Lib.hid hN
  obtain ⟨K0, GB⟩ := box1 w 47 #[.slice none 0 0, .int .u64 0, .int .u64 0, .int .u64 0, .int .u64 0, .bool false]
  clear hA hN
  go_enter Try.func21, Try.ntmps21
  go_wp2_with fail
  go_loopw [11] (fun iv wr => ∃ k : Nat, k ≤ n ∧ iv = .int .i64 (k : Int) ∧ Hid (∀ (j : Nat) (x : En), j < k → l[j]? = some x → bestB l x = false) ∧ Hid (Blk wr w.heap.size 47 #[.slice none 0 0, .int .u64 0, .int .u64 0, .int .u64 0, .int .u64 0, .bool false]) ∧ Hid (Below w.heap.size w wr)) (fun iv _ => n - (intOf iv).toNat)
  case atStart => exact ⟨0, by omega, rfl, Lib.hid (fun j x hj _ => absurd hj (by omega)), Lib.hid K0, Lib.hid GB⟩
  case round =>
    obtain ⟨k, hk, rfl, HBF, HKZ, HGB⟩ := hrel
    by_cases hlt : k < n
    · obtain ⟨⟨⟨A1, n1, c1, is1⟩, ⟨h1, l1, x1⟩, o1, f1⟩, hx⟩ := elem_at (l := l) (k := k) (by rw [HL.out]; exact hlt)
      have hm := List.mem_of_getElem? hx
      obtain ⟨u1, u2, u3⟩ := HQ.out.u64 _ hm
      have hl1 : is1.length = n1 := HQ.out.len_mem hm
      have hn1 : n1 ≤ 1000 := HN.out _ hm
      obtain ⟨ad, rfl, _, d0, d1, d2, d3, d4, d5⟩ := (HQ.out.below HGB.out).at_ hx
      have HE1 := Lib.hid (And.intro u1 (And.intro u2 (And.intro u3 (And.intro hl1 (And.intro hn1 (HQ.out.mem _ hm))))))
      have HRt := Lib.hid (fun (u : World) => eright_any A1 n1 c1 h1 l1 x1 o1 f1 u)
      rw [show askB n1 h1 x1 = canE (is1, (h1, l1, x1), o1, f1) from ask_can hl1 u2] at HRt
      unfold agE at HRt
      have HX := Lib.hid hx
      obtain ⟨v, hv⟩ : ∃ v, canE (is1, (h1, l1, x1), o1, f1) = v := ⟨_, rfl⟩
      rw [hv] at HRt
      have HV0 : Hid (soFar l ((A1, n1, c1, is1), (h1, l1, x1), o1, f1) 0 = v) := Lib.hid (by unfold soFar; rw [show canE (et ((A1, n1, c1, is1), (h1, l1, x1), o1, f1)) = v from hv]; simp)
      have K5 := Blk.new wr 47 #[.slice A1 n1 c1, .int .u64 (h1 : Int), .int .u64 (l1 : Int), .int .u64 (x1 : Int), .int .u64 (o1 : Int), .bool f1]
      have B5 := (Below.refl wr.heap.size wr).alloc (Nat.le_refl _) (.cells #[.slice A1 n1 c1, .int .u64 (h1 : Int), .int .u64 (l1 : Int), .int .u64 (x1 : Int), .int .u64 (o1 : Int), .bool f1] 47)
      have i1 : (0 : Int) ≤ (k : Int) := by omega
      have i2 : (k : Int) < (n : Int) := by omega
      have y0 := K5.cell 0
      have y1 := K5.cell 1
      have y2 := K5.cell 2
      have y3 := K5.cell 3
      have y4 := K5.cell 4
      have y5 := K5.cell 5
      clear hx hm u1 u2 u3 hl1 hn1 hv
      go_wp2_with fail
      refine (HRt.out _).mono ?_
      rintro e w2 ⟨rfl, h9⟩
      replace K5 := K5.below h9 K5.lt
      replace B5 := B5.trans (h9.mono B5.size)
      clear h9 y0 d0 y1 d1 y2 d2 y3 d3 y4 d4 y5 d5
      have KZ2 := HKZ.out.below B5 HKZ.out.lt
      have GB2 := HGB.out.trans (B5.mono HGB.out.size)
      obtain ⟨g5, hg5⟩ : ∃ g, wr.heap.size = g := ⟨_, rfl⟩
      rw [hg5] at K5 ⊢
      have HV2 := Lib.hid (And.intro K5 (And.intro KZ2 GB2))
      clear hg5 K5 KZ2 GB2 B5 HKZ HGB
      go_wp2_with fail
      go_loopw [6, 19] (fun sv iv wr => ∃ j : Nat, j ≤ n ∧ sv = .bool (soFar l ((A1, n1, c1, is1), (h1, l1, x1), o1, f1) j) ∧ iv = .int .i64 (j : Int) ∧ Hid (Below w2.heap.size w2 wr)) (fun _ iv _ => n - (intOf iv).toNat)
      case atStart => exact ⟨0, by omega, by rw [HV0.out], rfl, Lib.hid (Below.refl _ _)⟩
      case round =>
        obtain ⟨j, hj, rfl, rfl, HB⟩ := hrel
        obtain ⟨s, hs⟩ : ∃ s, soFar l ((A1, n1, c1, is1), (h1, l1, x1), o1, f1) j = s := ⟨_, rfl⟩
        by_cases hjt : j < n
        · obtain ⟨⟨⟨A2, n2, c2, is2⟩, ⟨h2, l2, x2⟩, o2, f2⟩, hy⟩ := elem_at (l := l) (k := j) (by rw [HL.out]; exact hjt)
          have hm := List.mem_of_getElem? hy
          obtain ⟨v1, v2, v3⟩ := HQ.out.u64 _ hm
          have hl2 : is2.length = n2 := HQ.out.len_mem hm
          have hn2 : n2 ≤ 1000 := HN.out _ hm
          have hr2 := HQ.out.mem _ hm
          have HGW := Lib.hid (HV2.out.2.2.trans (HB.out.mono HV2.out.2.2.size))
          obtain ⟨ad2, e2, _, d0, d1, d2, d3, d4, d5⟩ := (HQ.out.below HGW.out).at_ hy
          obtain rfl : ad = ad2 := Option.some.inj e2
          have HSN := Lib.hid (so_next (x := ((A1, n1, c1, is1), (h1, l1, x1), o1, f1)) hy)
          rw [hs] at HSN ⊢
          have HAh := Lib.hid (fun (u : World) (hu : Below w.heap.size w u) => eahead_any A2 n2 c2 h2 l2 x2 o2 f2 is2 A1 n1 c1 h1 l1 x1 o1 f1 is1 u ⟨(hr2.below hu).more hu.size, hn2⟩ ⟨(HE1.out.2.2.2.2.2.below hu).more hu.size, HE1.out.2.2.2.2.1⟩ v1 v2 v3 HE1.out.1 HE1.out.2.1 HE1.out.2.2.1)
          rw [ahead_doc hl2 HE1.out.2.2.2.1 v2 HE1.out.2.1] at HAh
          unfold agE at HAh
          obtain ⟨av, hav⟩ : ∃ av, aheadE (is2, (h2, l2, x2), o2, f2) (is1, (h1, l1, x1), o1, f1) = av := ⟨_, rfl⟩
          rw [hav] at HAh
          rw [show aheadE (et ((A2, n2, c2, is2), (h2, l2, x2), o2, f2)) (et ((A1, n1, c1, is1), (h1, l1, x1), o1, f1)) = av from hav] at HSN
          have K8 := Blk.new wr 47 #[.slice A2 n2 c2, .int .u64 (h2 : Int), .int .u64 (l2 : Int), .int .u64 (x2 : Int), .int .u64 (o2 : Int), .bool f2]
          have B8 := HB.out.alloc HB.out.size (.cells #[.slice A2 n2 c2, .int .u64 (h2 : Int), .int .u64 (l2 : Int), .int .u64 (x2 : Int), .int .u64 (o2 : Int), .bool f2] 47)
          have K5 := HV2.out.1.below B8 HV2.out.1.lt
          have B8W := HV2.out.2.2.trans (B8.mono HV2.out.2.2.size)
          have j1 : (0 : Int) ≤ (j : Int) := by omega
          have j2 : (j : Int) < (n : Int) := by omega
          clear hy hm v1 v2 v3 hl2 hn2 hr2 e2 hs hav
          cases s with
          | false =>
            have HBX := Lib.hid B8
            clear B8 B8W K8 K5 HAh
            go_wp2_with fail
            go_roundw
            case rel => exact ⟨j + 1, by omega, by rw [HSN.out]; rfl, by go_num, HBX⟩
            case measure => simp [intOf] <;> omega
          | true =>
            have y0 := K5.cell 0
            have y1 := K5.cell 1
            have y2 := K5.cell 2
            have y3 := K5.cell 3
            have y4 := K5.cell 4
            have y5 := K5.cell 5
            have z0 := K8.cell 0
            have z1 := K8.cell 1
            have z2 := K8.cell 2
            have z3 := K8.cell 3
            have z4 := K8.cell 4
            have z5 := K8.cell 5
            go_wp2_with fail
            refine (HAh.out _ B8W).mono ?_
            rintro e w8 ⟨rfl, h9⟩
            have HBX := Lib.hid (B8.trans (h9.mono B8.size))
            clear h9 B8 B8W K8 K5 y0 z0 d0 y1 z1 d1 y2 z2 d2 y3 z3 d3 y4 z4 d4 y5 z5 d5
            go_wp2_with fail
            go_roundw
            case rel => exact ⟨j + 1, by omega, by rw [HSN.out]; rfl, by go_num, HBX⟩
            case measure => simp [intOf] <;> omega
        · obtain rfl : j = n := by omega
          have hbs : soFar l ((A1, n1, c1, is1), (h1, l1, x1), o1, f1) j = bestB l ((A1, n1, c1, is1), (h1, l1, x1), o1, f1) := by
            unfold soFar bestB
            rw [List.take_of_length_le (by rw [HL.out]; exact Nat.le_refl _)]
          rw [hbs] at hs ⊢
          rw [hs]
          have HS := Lib.hid hs
          have KZ2 := HV2.out.2.1.below HB.out HV2.out.2.1.lt
          have GB2 := HV2.out.2.2.trans (HB.out.mono HV2.out.2.2.size)
          have K5 := HV2.out.1.below HB.out HV2.out.1.lt
          clear hbs hs
          cases s with
          | true =>
            have HD : Hid (firstD l = some ((A1, n1, c1, is1), (h1, l1, x1), o1, f1)) := Lib.hid (by
              obtain ⟨hil, ei⟩ := List.getElem?_eq_some_iff.1 HX.out
              exact List.find?_eq_some_iff_getElem.2 ⟨HS.out, k, hil, ei, fun q hq => by rw [HBF.out q _ hq (List.getElem?_eq_getElem (by omega))]; rfl⟩)
            have y0 := K5.cell 0
            have y1 := K5.cell 1
            have y2 := K5.cell 2
            have y3 := K5.cell 3
            have y4 := K5.cell 4
            have y5 := K5.cell 5
            have HP := Lib.hid (put6e (x1 := .slice A1 n1 c1) (x2 := .int .u64 (h1 : Int)) (x3 := .int .u64 (l1 : Int)) (x4 := .int .u64 (x1 : Int)) (x5 := .int .u64 (o1 : Int)) (x6 := .bool f1) KZ2 GB2 (Nat.le_refl _))
            have q0 := KZ2.cell 0
            have q1 := KZ2.cell 1
            have q2 := KZ2.cell 2
            have q3 := KZ2.cell 3
            have q4 := KZ2.cell 4
            have q5 := KZ2.cell 5
            have s0 := KZ2.frozen 0
            have s1 := KZ2.frozen 1
            have s2 := KZ2.frozen 2
            have s3 := KZ2.frozen 3
            have s4 := KZ2.frozen 4
            have s5 := KZ2.frozen 5
            clear KZ2 GB2

            clear K5
            go_wp2_with fail
            exact bodyPost_ret (v := .tuple #[.agg #[.slice A1 n1 c1, .int .u64 (h1 : Int), .int .u64 (l1 : Int), .int .u64 (x1 : Int), .int .u64 (o1 : Int), .bool f1], .bool true]) (results_cell_row_tmp Try.results21 _ _ _ _ _ _ rfl HP.out.1 Try.underlying47 rfl (by kernel_rfl)) rfl (by rw [HD.out]; exact ⟨HP.out.2, rfl⟩)
          | false =>
            have HBF2 : Hid (∀ (q : Nat) (x : En), q < k + 1 → l[q]? = some x → bestB l x = false) := Lib.hid (fun q x hq hx => by
              by_cases e : q = k
              · subst e
                rw [HX.out] at hx
                rw [← Option.some.inj hx]
                exact HS.out
              · exact HBF.out q x (by omega) hx)
            have HKZ3 := Lib.hid KZ2
            have HGB3 := Lib.hid GB2
            clear KZ2 GB2 K5
            go_wp2_with fail
            go_roundw
            case rel => exact ⟨k + 1, by omega, by go_num, HBF2, HKZ3, HGB3⟩
            case measure => simp [intOf] <;> omega
    · obtain rfl : k = n := by omega
      have HD : Hid (firstD l = none) := Lib.hid (List.find?_eq_none.2 fun x hx => by
        obtain ⟨q, hq⟩ := List.mem_iff_getElem?.1 hx
        rw [HBF.out q x (by have := (List.getElem?_eq_some_iff.1 hq).1; have := HL.out; omega) hq]
        simp)
      have KZ2 := HKZ.out
      have GB2 := HGB.out
      have HP := Lib.hid (put6e (x1 := .slice none 0 0) (x2 := .int .u64 0) (x3 := .int .u64 0) (x4 := .int .u64 0) (x5 := .int .u64 0) (x6 := .bool false) KZ2 GB2 (Nat.le_refl _))
      have q0 := KZ2.cell 0
      have q1 := KZ2.cell 1
      have q2 := KZ2.cell 2
      have q3 := KZ2.cell 3
      have q4 := KZ2.cell 4
      have q5 := KZ2.cell 5
      have s0 := KZ2.frozen 0
      have s1 := KZ2.frozen 1
      have s2 := KZ2.frozen 2
      have s3 := KZ2.frozen 3
      have s4 := KZ2.frozen 4
      have s5 := KZ2.frozen 5
      clear KZ2 GB2

      go_wp2_with fail
      exact bodyPost_ret (v := .tuple #[.agg #[.slice none 0 0, .int .u64 0, .int .u64 0, .int .u64 0, .int .u64 0, .bool false], .bool false]) (results_cell_row_tmp Try.results21 _ _ _ _ _ _ rfl HP.out.1 Try.underlying47 rfl (by kernel_rfl)) rfl (by rw [HD.out]; exact ⟨HP.out.2, rfl⟩)

set_option maxRecDepth 100000 in
set_option maxHeartbeats 8000000 in
theorem esame_any (A : Option Addr) (n c : Nat) (E : List En) (A' : Option Addr) (c' : Nat) (E' : List En) (w : World) (hA : EQ w A n E) (hA' : EQ w A' n E') (hN : ∀ e ∈ E, e.1.2.1 ≤ 1000) (hEE : E.map et = E'.map et) :
    Calls Try.prog 15 #[.slice A n c, .slice A' n c'] w (Said (.bool true) w) := by
  have HQ1 := Lib.hid hA
  have HQ2 := Lib.hid hA'
  have HN := Lib.hid hN
  have HEE := Lib.hid hEE
  have hn := hA.small
  clear hA hA' hN hEE
  go_enter Try.func15, Try.ntmps15
  go_wp2_with fail
  go_loopw [13] (fun iv wr => ∃ k : Nat, k ≤ n ∧ iv = .int .i64 (k : Int) ∧ Hid (Below w.heap.size w wr)) (fun iv _ => n - (intOf iv).toNat)
  case atStart => exact ⟨0, by omega, rfl, Lib.hid (Below.refl _ _)⟩
  case round =>
    obtain ⟨k, hk, rfl, HB⟩ := hrel
    by_cases hlt : k < n
    · obtain ⟨⟨⟨A1, n1, c1, is⟩, ⟨h, l, x⟩, o, f⟩, hx⟩ := elem_at (l := E) (k := k) (by rw [HQ1.out.len]; exact hlt)
      obtain ⟨⟨⟨A2, n2, c2, is2⟩, ⟨h2, l2, x2⟩, o2, f2⟩, hy⟩ := elem_at (l := E') (k := k) (by rw [HQ2.out.len]; exact hlt)
      have hxe : (E.map et)[k]? = some (is, (h, l, x), o, f) := by rw [List.getElem?_map, hx]; rfl
      have hye : (E'.map et)[k]? = some (is2, (h2, l2, x2), o2, f2) := by rw [List.getElem?_map, hy]; rfl
      rw [HEE.out, hye] at hxe
      obtain ⟨rfl, ⟨rfl, rfl, rfl⟩, rfl, rfl⟩ : is2 = is ∧ (h2 = h ∧ l2 = l ∧ x2 = x) ∧ o2 = o ∧ f2 = f := by
        have := Option.some.inj hxe
        simp only [Prod.mk.injEq] at this
        exact this
      have hm1 : Reads w w.heap.size 1 A1 n1 (vs is2) := HQ1.out.mem _ (List.mem_of_getElem? hx)
      have hm2 : Reads w w.heap.size 1 A2 n2 (vs is2) := HQ2.out.mem _ (List.mem_of_getElem? hy)
      have hl1 : is2.length = n1 := HQ1.out.len_mem (List.mem_of_getElem? hx)
      have hl2 : is2.length = n2 := HQ2.out.len_mem (List.mem_of_getElem? hy)
      obtain rfl : n2 = n1 := hl2.symm.trans hl1
      have hlen : n2 ≤ 1000 := HN.out _ (List.mem_of_getElem? hx)
      have HEq := Lib.hid (fun (u : World) (hu : Below w.heap.size w u) => esame_one A1 n2 c1 A2 c2 h2 l2 x2 o2 f2 is2 u ⟨(hm1.below hu).more hu.size, hlen⟩ ⟨(hm2.below hu).more hu.size, hlen⟩)
      unfold agE at HEq
      obtain ⟨ad, rfl, _, _⟩ := HQ1.out.at_ hx
      obtain ⟨ae, rfl, _, _⟩ := HQ2.out.at_ hy
      have HF1 : Hid (∀ u, Below w.heap.size w u → u.cell? (ad.add (k * 6)) = some (.slice A1 n2 c1) ∧ u.cell? ⟨(ad.add (k * 6)).block, (ad.add (k * 6)).off + 1, none⟩ = some (.int .u64 (h2 : Int)) ∧ u.cell? ⟨(ad.add (k * 6)).block, (ad.add (k * 6)).off + 2, none⟩ = some (.int .u64 (l2 : Int)) ∧ u.cell? ⟨(ad.add (k * 6)).block, (ad.add (k * 6)).off + 3, none⟩ = some (.int .u64 (x2 : Int)) ∧ u.cell? ⟨(ad.add (k * 6)).block, (ad.add (k * 6)).off + 4, none⟩ = some (.int .u64 (o2 : Int)) ∧ u.cell? ⟨(ad.add (k * 6)).block, (ad.add (k * 6)).off + 5, none⟩ = some (.bool f2)) := Lib.hid (fun u hu => by
        obtain ⟨ad2, e2, _, b⟩ := (HQ1.out.below hu).at_ hx
        obtain rfl : ad = ad2 := Option.some.inj e2
        exact b)
      have HF2 : Hid (∀ u, Below w.heap.size w u → u.cell? (ae.add (k * 6)) = some (.slice A2 n2 c2) ∧ u.cell? ⟨(ae.add (k * 6)).block, (ae.add (k * 6)).off + 1, none⟩ = some (.int .u64 (h2 : Int)) ∧ u.cell? ⟨(ae.add (k * 6)).block, (ae.add (k * 6)).off + 2, none⟩ = some (.int .u64 (l2 : Int)) ∧ u.cell? ⟨(ae.add (k * 6)).block, (ae.add (k * 6)).off + 3, none⟩ = some (.int .u64 (x2 : Int)) ∧ u.cell? ⟨(ae.add (k * 6)).block, (ae.add (k * 6)).off + 4, none⟩ = some (.int .u64 (o2 : Int)) ∧ u.cell? ⟨(ae.add (k * 6)).block, (ae.add (k * 6)).off + 5, none⟩ = some (.bool f2)) := Lib.hid (fun u hu => by
        obtain ⟨ad2, e2, _, b⟩ := (HQ2.out.below hu).at_ hy
        obtain rfl : ae = ad2 := Option.some.inj e2
        exact b)
      have i1 : (0 : Int) ≤ (k : Int) := by omega
      have i2 : (k : Int) < (n : Int) := by omega
      have BW := HB.out.drew
      clear hx hy hxe hye hm1 hm2 hl1 hl2 hlen
      go_upto_region 6 with fail
      refine wp_region_held_drew (S := fun u => Below w.heap.size w u) (by kernel_rfl) BW (fun hS => ?_)
      clear BW
      generalize World.drew wr = Y2 at hS ⊢
      refine wpAnyH_take (i := 0) (v := .slice (some ad) n c) rfl (by kernel_rfl) (by kernel_rfl) (by kernel_rfl) (fun _ _ _ h => h) (Or.inl ⟨by kernel_rfl, fun u hSw => (by go_simp)⟩) hS ?_
      change wpAnyH _ _ _ _ _ _ _ (Act.put _ (some 16) _) _
      simp only [Act.put]
      try simp only [List.setIfInBounds_toArray, List.set_cons_zero, List.set_cons_succ]
      refine wpAnyH_take (i := 1) (v := .int .i64 (k : Int)) rfl (by kernel_rfl) (by kernel_rfl) (by kernel_rfl) (fun _ _ _ h => h) (Or.inl ⟨by kernel_rfl, fun u hSw => (by go_simp)⟩) hS ?_
      change wpAnyH _ _ _ _ _ _ _ (Act.put _ (some 17) _) _
      simp only [Act.put]
      try simp only [List.setIfInBounds_toArray, List.set_cons_zero, List.set_cons_succ]
      refine wpAnyH_take (i := 2) (v := .pointer (some (ad.add (k * 6)))) rfl (by kernel_rfl) (by kernel_rfl) (by kernel_rfl) (fun _ _ _ h => h) (Or.inl ⟨by kernel_rfl, fun u hSw => (by go_simp)⟩) hS ?_
      change wpAnyH _ _ _ _ _ _ _ (Act.put _ (some 18) _) _
      simp only [Act.put]
      try simp only [List.setIfInBounds_toArray, List.set_cons_zero, List.set_cons_succ]
      refine wpAnyH_take (i := 3) (v := .agg #[.slice A1 n2 c1, .int .u64 (h2 : Int), .int .u64 (l2 : Int), .int .u64 (x2 : Int), .int .u64 (o2 : Int), .bool f2]) rfl (by kernel_rfl) (by kernel_rfl) (by kernel_rfl) (fun _ _ _ h => h) (Or.inl ⟨by kernel_rfl, fun u hSw => (by obtain ⟨q0, q1, q2, q3, q4, q5⟩ := HF1.out u hSw; go_simp)⟩) hS ?_
      change wpAnyH _ _ _ _ _ _ _ (Act.put _ (some 19) _) _
      simp only [Act.put]
      try simp only [List.setIfInBounds_toArray, List.set_cons_zero, List.set_cons_succ]
      refine wpAnyH_take (i := 4) (v := .slice (some ae) n c') rfl (by kernel_rfl) (by kernel_rfl) (by kernel_rfl) (fun _ _ _ h => h) (Or.inl ⟨by kernel_rfl, fun u hSw => (by go_simp)⟩) hS ?_
      change wpAnyH _ _ _ _ _ _ _ (Act.put _ (some 20) _) _
      simp only [Act.put]
      try simp only [List.setIfInBounds_toArray, List.set_cons_zero, List.set_cons_succ]
      refine wpAnyH_take (i := 5) (v := .int .i64 (k : Int)) rfl (by kernel_rfl) (by kernel_rfl) (by kernel_rfl) (fun _ _ _ h => h) (Or.inl ⟨by kernel_rfl, fun u hSw => (by go_simp)⟩) hS ?_
      change wpAnyH _ _ _ _ _ _ _ (Act.put _ (some 21) _) _
      simp only [Act.put]
      try simp only [List.setIfInBounds_toArray, List.set_cons_zero, List.set_cons_succ]
      refine wpAnyH_take (i := 6) (v := .pointer (some (ae.add (k * 6)))) rfl (by kernel_rfl) (by kernel_rfl) (by kernel_rfl) (fun _ _ _ h => h) (Or.inl ⟨by kernel_rfl, fun u hSw => (by go_simp)⟩) hS ?_
      change wpAnyH _ _ _ _ _ _ _ (Act.put _ (some 22) _) _
      simp only [Act.put]
      try simp only [List.setIfInBounds_toArray, List.set_cons_zero, List.set_cons_succ]
      refine wpAnyH_take (i := 7) (v := .agg #[.slice A2 n2 c2, .int .u64 (h2 : Int), .int .u64 (l2 : Int), .int .u64 (x2 : Int), .int .u64 (o2 : Int), .bool f2]) rfl (by kernel_rfl) (by kernel_rfl) (by kernel_rfl) (fun _ _ _ h => h) (Or.inl ⟨by kernel_rfl, fun u hSw => (by obtain ⟨q0, q1, q2, q3, q4, q5⟩ := HF2.out u hSw; go_simp)⟩) hS ?_
      change wpAnyH _ _ _ _ _ _ _ (Act.put _ (some 23) _) _
      simp only [Act.put]
      try simp only [List.setIfInBounds_toArray, List.set_cons_zero, List.set_cons_succ]
      refine wpAnyH_ready (rs := [8]) (by kernel_rfl) (by simp) ?_
      refine AllReadyH.cons rfl (fun K hK => ?_) AllReadyH.nil
      go_simp
      refine (HEq.out _ hS).mono ?_
      rintro e1 w1 ⟨rfl, h9⟩
      have S1 : Below w.heap.size w w1 := hS.trans (h9.mono hS.size)
      clear h9 hS
      refine hK.out _ _ S1 (fun hS => ?_)
      clear hK K S1
      refine wpAnyH_take (i := 9) (v := .bool false) rfl (by kernel_rfl) (by kernel_rfl) (by kernel_rfl) (fun _ _ _ h => h) (Or.inl ⟨by kernel_rfl, fun u hSw => (by go_simp)⟩) hS ?_
      change wpAnyH _ _ _ _ _ _ _ (Act.put _ (some 25) _) _
      simp only [Act.put]
      try simp only [List.setIfInBounds_toArray, List.set_cons_zero, List.set_cons_succ]
      refine wpAnyH_done (by kernel_rfl) ?_ _
      have HB8 := Lib.hid hS
      clear hS
      go_wp2_with fail
      go_roundw
      case rel => exact ⟨k + 1, by omega, by go_num, HB8⟩
      case measure => simp [intOf] <;> omega
    · obtain rfl : k = n := by omega
      go_wp2_with fail
      go_ret
      exact ⟨rfl, HB.out⟩

end Go.Proofs.Ytniilfcbiliegaa
