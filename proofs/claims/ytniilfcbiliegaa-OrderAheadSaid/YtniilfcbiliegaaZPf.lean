/-
  OrderOne's walk: Ahead is one order. No statement is proved here.
-/
import Derived.Test.YtniilfcbiliegaaZPc
import Derived.Test.YtniilfcbiliegaaZPe
namespace Go.Proofs.Ytniilfcbiliegaa
open Go.RowKit Go.Maps

/-- entities that can be asked -/
structure EQ (w : World) (A : Option Addr) (n : Nat) (E : List En) : Prop where
  row : Reads w w.heap.size 6 A n (flat ev E)
  small : n ≤ 100
  mem : ∀ e ∈ E, Reads w w.heap.size 1 e.1.1 e.1.2.1 (vs e.1.2.2.2)
  u64 : ∀ e ∈ E, e.2.1.1 < 2 ^ 64 ∧ e.2.1.2.1 < 2 ^ 64 ∧ e.2.1.2.2 < 2 ^ 64
theorem EQ.below {w w' : World} {A : Option Addr} {n : Nat} {l : List En} (h : EQ w A n l) (hb : Below w.heap.size w w') : EQ w' A n l :=
  ⟨(h.row.below hb).more hb.size, h.small, fun e he => ((h.mem e he).below hb).more hb.size, h.u64⟩
theorem EQ.len {w : World} {A : Option Addr} {n : Nat} {l : List En} (h : EQ w A n l) : l.length = n := by
  have h1 := h.row.1
  rw [length_flat ev length_ev] at h1
  omega
theorem EQ.at_ {w : World} {A : Option Addr} {n : Nat} {l : List En} (h : EQ w A n l) {k : Nat} {A2 : Option Addr} {n2 c2 : Nat} {is : List Int} {a b x o : Nat} {f : Bool} (hx : l[k]? = some ((A2, n2, c2, is), (a, b, x), o, f)) :
    ∃ ad, A = some ad ∧ ad.block < w.heap.size ∧ w.cell? (ad.add (k * 6)) = some (.slice A2 n2 c2) ∧ w.cell? ⟨(ad.add (k * 6)).block, (ad.add (k * 6)).off + 1, none⟩ = some (.int .u64 (a : Int)) ∧ w.cell? ⟨(ad.add (k * 6)).block, (ad.add (k * 6)).off + 2, none⟩ = some (.int .u64 (b : Int)) ∧
      w.cell? ⟨(ad.add (k * 6)).block, (ad.add (k * 6)).off + 3, none⟩ = some (.int .u64 (x : Int)) ∧ w.cell? ⟨(ad.add (k * 6)).block, (ad.add (k * 6)).off + 4, none⟩ = some (.int .u64 (o : Int)) ∧ w.cell? ⟨(ad.add (k * 6)).block, (ad.add (k * 6)).off + 5, none⟩ = some (.bool f) := by
  obtain ⟨ad, e, hb, hc⟩ := h.row.elem ev length_ev hx (by omega)
  have s0 := hc 0 _ rfl
  have s1 := hc 1 _ rfl
  have s2 := hc 2 _ rfl
  have s3 := hc 3 _ rfl
  have s4 := hc 4 _ rfl
  have s5 := hc 5 _ rfl
  rw [Nat.add_zero] at s0
  rw [add_past ad (k * 6) 0] at s1
  rw [add_past ad (k * 6) 1] at s2
  rw [add_past ad (k * 6) 2] at s3
  rw [add_past ad (k * 6) 3] at s4
  rw [add_past ad (k * 6) 4] at s5
  exact ⟨ad, e, hb, s0, s1, s2, s3, s4, s5⟩
theorem EQ.len_mem {w : World} {A : Option Addr} {n : Nat} {E : List En} (h : EQ w A n E) {e : En} (he : e ∈ E) : e.1.2.2.2.length = e.1.2.1 := by have := (h.mem e he).1; rw [length_vs] at this; omega
theorem ES.eq {w : World} {B : Nat} {A : Option Addr} {n c : Nat} {E : List En} (h : ES w B A n c E) (hn : n ≤ 100) (hu : ∀ e ∈ E, e.2.1.1 < 2 ^ 64 ∧ e.2.1.2.1 < 2 ^ 64 ∧ e.2.1.2.2 < 2 ^ 64) : EQ w A n E := ⟨Reads.of_own h.row, hn, fun e he => Reads.of_own (h.mem e he), hu⟩
/-- two and three of one order -/
theorem one_like {a b : Et} (ha : canE a = true) (hb : canE b = true) (h : likeE a b = true) : aheadE a b = false ∧ aheadE b a = false := by
  have := stand_zero.2 h
  have := stand_cmp.neg a b
  rw [aheadE_yes ha hb, aheadE_yes hb ha, decide_eq_false (by omega), decide_eq_false (by omega)]
  exact ⟨rfl, rfl⟩
theorem one_unlike {a b : Et} (ha : canE a = true) (hb : canE b = true) (h : likeE a b = false) : aheadE a b = !aheadE b a := by
  have h0 : standI a b ≠ 0 := fun e => by rw [stand_zero.1 e] at h; cases h
  have := stand_cmp.neg a b
  rw [aheadE_yes ha hb, aheadE_yes hb ha]
  by_cases hlt : standI a b < 0
  · rw [decide_eq_true hlt, decide_eq_false (by omega)]; rfl
  · rw [decide_eq_false hlt, decide_eq_true (by omega)]; rfl
theorem one_trans {a b c : Et} (ha : canE a = true) (hb : canE b = true) (hc : canE c = true) (h1 : aheadE a b = true) (h2 : aheadE b c = true) : aheadE a c = true := by
  rw [aheadE_yes ha hb, decide_eq_true_eq] at h1
  rw [aheadE_yes hb hc, decide_eq_true_eq] at h2
  rw [aheadE_yes ha hc, decide_eq_true_eq]
  exact (stand_cmp.tr a b c ha hb hc (by omega) (by omega)).2 (.inl h1)

theorem can_pos {is : List Int} {t : Nat × Nat × Nat} {o : Nat} {f : Bool} {n : Nat} (h : canE (is, t, o, f) = true) (hl : is.length = n) : 0 < n := by rw [← hl]; exact (canE_iff.1 h).1

set_option maxRecDepth 100000 in
set_option maxHeartbeats 16000000 in
theorem one_walk (A : Option Addr) (n c : Nat) (l : List En) (w : World) (hA : EA w A n l) (hu : ∀ e ∈ l, e.2.1.1 < 2 ^ 64 ∧ e.2.1.2.1 < 2 ^ 64 ∧ e.2.1.2.2 < 2 ^ 64) :
    Calls Try.prog 5 #[.slice A n c] w (Said (.bool true) w) := by
  obtain ⟨i0, hi0, hz0, hz1, hz2⟩ := info_parts9 ent_info
  have HWk := Lib.hid (wakes_any w)
  have HFw := Lib.hid (fun (u : World) (h : Below w.heap.size w u) => few_any A n c l u (hA.below h))
  have HU := Lib.hid hu
  clear hA hu
  go_enter Try.func5, Try.ntmps5
  go_wp2_with fail
  refine HWk.out.mono ?_
  rintro e w1 ⟨rfl, GB⟩
  go_wp2_with fail
  refine (HFw.out _ GB).mono ?_
  rintro e w2 ⟨Af, nf, cf, Ef, rfl, SF, eF, hnf, h9⟩
  replace GB := GB.trans (h9.mono GB.size)
  have HUF : Hid (∀ e ∈ Ef, e.2.1.1 < 2 ^ 64 ∧ e.2.1.2.1 < 2 ^ 64 ∧ e.2.1.2.2 < 2 ^ 64) := Lib.hid (fun e he => by
    have hm : et e ∈ fewF l := by rw [← eF]; exact List.mem_map.2 ⟨e, he, rfl⟩
    unfold fewF at hm
    obtain ⟨y, hy, e2⟩ := List.mem_map.1 (List.mem_of_mem_take hm)
    have e3 : e.2 = y.2 := (congrArg Prod.snd e2).symm
    rw [e3]
    exact HU.out y hy)
  have HQF := Lib.hid (SF.eq (by omega) HUF.out)
  have HLF := Lib.hid HQF.out.len
  have HW2 := Lib.hid GB
  clear h9 SF eF GB
  go_wp2_with fail
  go_loopw [3, 19] (fun s i wr => ∃ (k : Nat) (A3 : Option Addr) (n3 c3 : Nat) (E : List En), k ≤ nf ∧ i = .int .i64 (k : Int) ∧ s = .slice A3 n3 c3 ∧ n3 ≤ k ∧ Hid (wr.ownsRow w2.heap.size 47 6 (.slice A3 n3 c3) n3 (flat ev E) ∧ (∀ e ∈ E, e ∈ Ef ∧ canE (et e) = true) ∧ Below w2.heap.size w2 wr)) (fun _ i _ => nf - (intOf i).toNat)
  case atStart => exact ⟨0, none, 0, 0, [], Nat.zero_le _, rfl, rfl, by omega, Lib.hid ⟨World.ownsRow_nil _ _ _ _, (fun e he => by cases he), Below.refl _ _⟩⟩
  case round =>
    obtain ⟨k, A3, n3, c3, E, hk, rfl, rfl, hn3, HJ⟩ := hrel
    by_cases hlt : k < nf
    · obtain ⟨⟨⟨A1, n1, c1, is1⟩, ⟨h1, l1, x1⟩, o1, f1⟩, hx⟩ := elem_at (l := Ef) (k := k) (by rw [HLF.out]; exact hlt)
      have hmem := List.mem_of_getElem? hx
      obtain ⟨ad, rfl, _, d0, d1, d2, d3, d4, d5⟩ := (HQF.out.below HJ.out.2.2).at_ hx
      have hu1 := HUF.out _ hmem
      have HLM : Hid (is1.length = n1) := Lib.hid (HQF.out.len_mem hmem)
      have HM1 := Lib.hid hmem
      have HC := Lib.hid (fun (u : World) => fcheck_any h1 l1 x1 u hu1.1 hu1.2.1 hu1.2.2)
      have i1 : (0 : Int) ≤ (k : Int) := by omega
      have i2 : (k : Int) < (nf : Int) := by omega
      have KD := Blk.new wr 47 #[.slice A1 n1 c1, .int .u64 (h1 : Int), .int .u64 (l1 : Int), .int .u64 (x1 : Int), .int .u64 (o1 : Int), .bool f1]
      have z0 := KD.cell 0
      have z1 := KD.cell 1
      have z2 := KD.cell 2
      have z3 := KD.cell 3
      have z4 := KD.cell 4
      have z5 := KD.cell 5
      have BB := (Below.refl wr.heap.size wr).alloc (Nat.le_refl _) (.cells #[.slice A1 n1 c1, .int .u64 (h1 : Int), .int .u64 (l1 : Int), .int .u64 (x1 : Int), .int .u64 (o1 : Int), .bool f1] 47)
      have HO := Lib.hid (own_below HJ.out.1 BB)
      have HB := Lib.hid (HJ.out.2.2.trans (BB.mono HJ.out.2.2.size))
      have HKD := Lib.hid KD
      clear hx hmem BB KD hu1
      by_cases hn1 : n1 = 0
      · subst hn1
        go_wp2_with fail
        go_roundw
        case rel => exact ⟨k + 1, A3, n3, c3, E, by omega, by go_num, rfl, by omega, Lib.hid ⟨HO.out, HJ.out.2.1, HB.out⟩⟩
        case measure => simp [intOf] <;> omega
      · have ct1 : decide ((0 : Int) < (n1 : Int)) = true := by simp; omega
        have ct2 : (0 : Int) < (n1 : Int) := by omega
        cases hr : rightN (h1 * 2 ^ 64 + l1) x1 with
        | false =>
          rw [hr] at HC
          clear hr
          go_wp2_with fail
          refine (HC.out _).mono ?_
          rintro e w4 ⟨rfl, h9⟩
          have HO4 := Lib.hid (own_below HO.out h9)
          have HB4 := Lib.hid (HB.out.trans (h9.mono HB.out.size))
          clear h9 z0 z1 z2 z3 z4 z5
          go_wp2_with fail
          go_roundw
          case rel => exact ⟨k + 1, A3, n3, c3, E, by omega, by go_num, rfl, by omega, Lib.hid ⟨HO4.out, HJ.out.2.1, HB4.out⟩⟩
          case measure => simp [intOf] <;> omega
        | true =>
          have HCan : Hid (canE (is1, (h1, l1, x1), o1, f1) = true) := Lib.hid (canE_iff.2 ⟨by rw [HLM.out]; omega, hr⟩)
          rw [hr] at HC
          clear hr
          go_wp2_with fail
          refine (HC.out _).mono ?_
          rintro e w4 ⟨rfl, h9⟩
          have HO4 := Lib.hid (own_below HO.out h9)
          have HB4 := Lib.hid (HB.out.trans (h9.mono HB.out.size))
          have KD := HKD.out.below h9 HKD.out.lt
          clear h9 z0 z1 z2 z3 z4 z5
          have z0 := KD.cell 0
          have z1 := KD.cell 1
          have z2 := KD.cell 2
          have z3 := KD.cell 3
          have z4 := KD.cell 4
          have z5 := KD.cell 5
          clear KD
          go_wp2_with (
            at_builtin
            refine wpList_append_any _ rfl (.tmp 33) (.tmp 35) 34 rfl w2.heap.size 47 i0 (.agg #[.slice none 0 0, .int .u64 0, .int .u64 0, .int .u64 0, .int .u64 0, .bool false]) 6 64 Try.underlying34 hi0 hz0 hz1 hz2 rfl (by decide) (.slice A3 n3 c3) n3 (flat ev E) rfl (HO4.out.alloc _) _ (some ⟨w4.heap.size, 0, none⟩) 1 1 (flat ev [((A1, n1, c1, is1), (h1, l1, x1), o1, f1)]) rfl (reads_new _ _ _ rfl rfl) (ev_ones _) (by simp only [maxLen]; omega) (by omega) (by have := HB4.out.size; simp; omega) ?_
            intro v9 w9 own9 grow9 _
            rw [← flat_append] at own9
            obtain ⟨A9, c9, rfl, _, _⟩ := own_reads own9
            have HF := Lib.hid (And.intro own9 ((HB4.out.alloc HB4.out.size _).grown grow9 (HB4.out.alloc HB4.out.size _).size (fun j hj => (HO4.out.lt j hj).1)))
            clear own9 grow9)
          clear z0 z1 z2 z3 z4 z5
          go_wp2
          go_roundw
          case rel => exact ⟨k + 1, A9, n3 + 1, c9, E ++ [((A1, n1, c1, is1), (h1, l1, x1), o1, f1)], by omega, by go_num, rfl, by omega, Lib.hid ⟨HF.out.1, fun e he => by
            rw [List.mem_append, List.mem_singleton] at he
            rcases he with he | rfl
            · exact HJ.out.2.1 e he
            · exact ⟨HM1.out, HCan.out⟩, HF.out.2⟩⟩
          case measure => simp [intOf] <;> omega
    · obtain rfl : k = nf := by omega
      have hQ : EQ wr A3 n3 E := ⟨Reads.of_own HJ.out.1, by omega, fun e he => (HQF.out.below HJ.out.2.2).mem e (HJ.out.2.1 e he).1, fun e he => HUF.out e (HJ.out.2.1 e he).1⟩
      have HCN : Hid (∀ e ∈ E, canE (et e) = true) := Lib.hid (fun e he => (HJ.out.2.1 e he).2)
      have GB := HW2.out.trans (HJ.out.2.2.mono HW2.out.size)
      have HQ := Lib.hid hQ
      have HL := Lib.hid hQ.len
      have hn100 := hQ.small
      obtain ⟨V, hV⟩ : ∃ V, V = wr := ⟨_, rfl⟩
      rw [← hV] at HQ GB ⊢
      have HGV := Lib.hid GB
      clear hQ GB hV HJ hn3
      go_wp2_with fail
      go_loopw [40] (fun i wr => ∃ j : Nat, j ≤ n3 ∧ i = .int .i64 (j : Int) ∧ Hid (Below V.heap.size V wr)) (fun i _ => n3 - (intOf i).toNat)
      case atStart => exact ⟨0, by omega, rfl, Lib.hid (Below.refl _ _)⟩
      case round =>
        obtain ⟨j1, hj1, rfl, HB1⟩ := hrel
        by_cases hjt : j1 < n3
        · obtain ⟨⟨⟨A1, n1, c1, is1⟩, ⟨h1, l1, x1⟩, o1, f1⟩, hx1⟩ := elem_at (l := E) (k := j1) (by rw [HL.out]; exact hjt)
          have hm1 := List.mem_of_getElem? hx1
          obtain ⟨ad, rfl, _, d0, d1, d2, d3, d4, d5⟩ := (HQ.out.below HB1.out).at_ hx1
          have HE1 := Lib.hid (And.intro (HQ.out.u64 _ hm1) (And.intro (HCN.out _ hm1) (And.intro (HQ.out.mem _ hm1) (HQ.out.len_mem hm1))))
          have i1 : (0 : Int) ≤ (j1 : Int) := by omega
          have i2 : (j1 : Int) < (n3 : Int) := by omega
          have KD := Blk.new wr 47 #[.slice A1 n1 c1, .int .u64 (h1 : Int), .int .u64 (l1 : Int), .int .u64 (x1 : Int), .int .u64 (o1 : Int), .bool f1]
          have BB := HB1.out.alloc HB1.out.size (.cells #[.slice A1 n1 c1, .int .u64 (h1 : Int), .int .u64 (l1 : Int), .int .u64 (x1 : Int), .int .u64 (o1 : Int), .bool f1] 47)
          clear hx1 hm1
          go_wp2_with fail
          clear d0 d1 d2 d3 d4 d5
          obtain ⟨g1, hg1⟩ : ∃ x, wr.heap.size = x := ⟨_, rfl⟩
          rw [hg1] at KD ⊢
          generalize World.alloc wr _ = V1 at KD BB ⊢
          have HK1 := Lib.hid (And.intro KD BB)
          clear KD BB hg1
          go_loopw [46] (fun i wr => ∃ j : Nat, j ≤ n3 ∧ i = .int .i64 (j : Int) ∧ Hid (Below V1.heap.size V1 wr)) (fun i _ => n3 - (intOf i).toNat)
          case atStart => exact ⟨0, by omega, rfl, Lib.hid (Below.refl _ _)⟩
          case round =>
            obtain ⟨j2, hj2, rfl, HB2⟩ := hrel
            by_cases hjt2 : j2 < n3
            · obtain ⟨⟨⟨A2, n2, c2, is2⟩, ⟨h2, l2, x2⟩, o2, f2⟩, hx2⟩ := elem_at (l := E) (k := j2) (by rw [HL.out]; exact hjt2)
              have hm2 := List.mem_of_getElem? hx2
              have BV2 := HK1.out.2.trans (HB2.out.mono HK1.out.2.size)
              obtain ⟨ad2, e2, _, d0, d1, d2, d3, d4, d5⟩ := (HQ.out.below BV2).at_ hx2
              obtain rfl : ad = ad2 := by injection e2
              have HE2 := Lib.hid (And.intro (HQ.out.u64 _ hm2) (And.intro (HCN.out _ hm2) (And.intro (HQ.out.mem _ hm2) (HQ.out.len_mem hm2))))
              have i3 : (0 : Int) ≤ (j2 : Int) := by omega
              have i4 : (j2 : Int) < (n3 : Int) := by omega
              have KD2 := Blk.new wr 47 #[.slice A2 n2 c2, .int .u64 (h2 : Int), .int .u64 (l2 : Int), .int .u64 (x2 : Int), .int .u64 (o2 : Int), .bool f2]
              have KD1 := (HK1.out.1.below HB2.out HK1.out.1.lt).alloc (.cells #[.slice A2 n2 c2, .int .u64 (h2 : Int), .int .u64 (l2 : Int), .int .u64 (x2 : Int), .int .u64 (o2 : Int), .bool f2] 47)
              have BB := HB2.out.alloc HB2.out.size (.cells #[.slice A2 n2 c2, .int .u64 (h2 : Int), .int .u64 (l2 : Int), .int .u64 (x2 : Int), .int .u64 (o2 : Int), .bool f2] 47)
              clear hx2 hm2 e2 BV2
              go_upto_region 16 with fail
              clear d0 d1 d2 d3 d4 d5
              obtain ⟨g2, hg2⟩ : ∃ x, wr.heap.size = x := ⟨_, rfl⟩
              rw [hg2] at KD2 ⊢
              generalize World.alloc wr _ = V2 at KD1 KD2 BB ⊢
              have HP := Lib.hid (fun (u : World) (hb : Below V1.heap.size V1 u) => ahead_any A1 n1 c1 h1 l1 x1 o1 f1 is1 A2 n2 c2 h2 l2 x2 o2 f2 is2 u HE1.out.1.1 HE1.out.1.2.1 HE1.out.1.2.2 HE2.out.1.1 HE2.out.1.2.1 HE2.out.1.2.2 ((HE1.out.2.2.1.below (HK1.out.2.trans (hb.mono HK1.out.2.size))).more (HK1.out.2.trans (hb.mono HK1.out.2.size)).size) ((HE2.out.2.2.1.below (HK1.out.2.trans (hb.mono HK1.out.2.size))).more (HK1.out.2.trans (hb.mono HK1.out.2.size)).size))
              have HQ' := Lib.hid (fun (u : World) (hb : Below V1.heap.size V1 u) => ahead_any A2 n2 c2 h2 l2 x2 o2 f2 is2 A1 n1 c1 h1 l1 x1 o1 f1 is1 u HE2.out.1.1 HE2.out.1.2.1 HE2.out.1.2.2 HE1.out.1.1 HE1.out.1.2.1 HE1.out.1.2.2 ((HE2.out.2.2.1.below (HK1.out.2.trans (hb.mono HK1.out.2.size))).more (HK1.out.2.trans (hb.mono HK1.out.2.size)).size) ((HE1.out.2.2.1.below (HK1.out.2.trans (hb.mono HK1.out.2.size))).more (HK1.out.2.trans (hb.mono HK1.out.2.size)).size))
              have HLk := Lib.hid (fun (u : World) (hb : Below V1.heap.size V1 u) => like_any A1 n1 c1 h1 l1 x1 o1 f1 is1 A2 n2 c2 h2 l2 x2 o2 f2 is2 u HE1.out.1.1 HE1.out.1.2.1 HE1.out.1.2.2 HE2.out.1.1 HE2.out.1.2.1 HE2.out.1.2.2 ((HE1.out.2.2.1.below (HK1.out.2.trans (hb.mono HK1.out.2.size))).more (HK1.out.2.trans (hb.mono HK1.out.2.size)).size) ((HE2.out.2.2.1.below (HK1.out.2.trans (hb.mono HK1.out.2.size))).more (HK1.out.2.trans (hb.mono HK1.out.2.size)).size) (can_pos HE1.out.2.1 HE1.out.2.2.2) (can_pos HE2.out.2.1 HE2.out.2.2.2))
              unfold agE at HP HQ' HLk
              cases hlk : likeE (is1, (h1, l1, x1), o1, f1) (is2, (h2, l2, x2), o2, f2) with
              | true =>
                obtain ⟨hp, hq⟩ := one_like HE1.out.2.1 HE2.out.2.1 hlk
                rw [show aheadE (is1, (h1, l1, x1), o1, f1) (is2, (h2, l2, x2), o2, f2) = false from hp] at HP
                rw [show aheadE (is2, (h2, l2, x2), o2, f2) (is1, (h1, l1, x1), o1, f1) = false from hq] at HQ'
                rw [show likeE (is1, (h1, l1, x1), o1, f1) (is2, (h2, l2, x2), o2, f2) = true from hlk] at HLk
                refine wp_region_held_drew (S := fun u => Below V1.heap.size V1 u ∧ Blk u g1 47 #[.slice A1 n1 c1, .int .u64 (h1 : Int), .int .u64 (l1 : Int), .int .u64 (x1 : Int), .int .u64 (o1 : Int), .bool f1] ∧ Blk u g2 47 #[.slice A2 n2 c2, .int .u64 (h2 : Int), .int .u64 (l2 : Int), .int .u64 (x2 : Int), .int .u64 (o2 : Int), .bool f2]) (by kernel_rfl) ⟨BB.drew, KD1, KD2⟩ (fun hS => ?_)
                clear BB KD1 KD2 hlk hq hp
                generalize World.drew V2 = V2' at hS ⊢
                refine wpAnyH_take (i := 0) (v := .agg #[.slice A1 n1 c1, .int .u64 (h1 : Int), .int .u64 (l1 : Int), .int .u64 (x1 : Int), .int .u64 (o1 : Int), .bool f1]) rfl (by kernel_rfl) (by kernel_rfl) (by kernel_rfl) (fun _ _ _ h => h) (Or.inl ⟨by kernel_rfl, fun u hSw => (by have q0 := hSw.2.1.cell 0; have q1 := hSw.2.1.cell 1; have q2 := hSw.2.1.cell 2; have q3 := hSw.2.1.cell 3; have q4 := hSw.2.1.cell 4; have q5 := hSw.2.1.cell 5; go_simp)⟩) hS ?_
                change wpAnyH _ _ _ _ _ _ _ (Act.put _ (some 50) _) _
                simp only [Act.put]
                try simp only [List.setIfInBounds_toArray, List.set_cons_zero, List.set_cons_succ]
                refine wpAnyH_take (i := 1) (v := .agg #[.slice A2 n2 c2, .int .u64 (h2 : Int), .int .u64 (l2 : Int), .int .u64 (x2 : Int), .int .u64 (o2 : Int), .bool f2]) rfl (by kernel_rfl) (by kernel_rfl) (by kernel_rfl) (fun _ _ _ h => h) (Or.inl ⟨by kernel_rfl, fun u hSw => (by have q0 := hSw.2.2.cell 0; have q1 := hSw.2.2.cell 1; have q2 := hSw.2.2.cell 2; have q3 := hSw.2.2.cell 3; have q4 := hSw.2.2.cell 4; have q5 := hSw.2.2.cell 5; go_simp)⟩) hS ?_
                change wpAnyH _ _ _ _ _ _ _ (Act.put _ (some 51) _) _
                simp only [Act.put]
                try simp only [List.setIfInBounds_toArray, List.set_cons_zero, List.set_cons_succ]
                refine wpAnyH_take (i := 3) (v := .agg #[.slice A2 n2 c2, .int .u64 (h2 : Int), .int .u64 (l2 : Int), .int .u64 (x2 : Int), .int .u64 (o2 : Int), .bool f2]) rfl (by kernel_rfl) (by kernel_rfl) (by kernel_rfl) (fun _ _ _ h => h) (Or.inl ⟨by kernel_rfl, fun u hSw => (by have q0 := hSw.2.2.cell 0; have q1 := hSw.2.2.cell 1; have q2 := hSw.2.2.cell 2; have q3 := hSw.2.2.cell 3; have q4 := hSw.2.2.cell 4; have q5 := hSw.2.2.cell 5; go_simp)⟩) hS ?_
                change wpAnyH _ _ _ _ _ _ _ (Act.put _ (some 53) _) _
                simp only [Act.put]
                try simp only [List.setIfInBounds_toArray, List.set_cons_zero, List.set_cons_succ]
                refine wpAnyH_take (i := 4) (v := .agg #[.slice A1 n1 c1, .int .u64 (h1 : Int), .int .u64 (l1 : Int), .int .u64 (x1 : Int), .int .u64 (o1 : Int), .bool f1]) rfl (by kernel_rfl) (by kernel_rfl) (by kernel_rfl) (fun _ _ _ h => h) (Or.inl ⟨by kernel_rfl, fun u hSw => (by have q0 := hSw.2.1.cell 0; have q1 := hSw.2.1.cell 1; have q2 := hSw.2.1.cell 2; have q3 := hSw.2.1.cell 3; have q4 := hSw.2.1.cell 4; have q5 := hSw.2.1.cell 5; go_simp)⟩) hS ?_
                change wpAnyH _ _ _ _ _ _ _ (Act.put _ (some 54) _) _
                simp only [Act.put]
                try simp only [List.setIfInBounds_toArray, List.set_cons_zero, List.set_cons_succ]
                refine wpAnyH_ready (rs := [2]) (by kernel_rfl) (by simp) ?_
                refine AllReadyH.cons rfl (fun K hK => ?_) AllReadyH.nil
                go_simp
                refine (HP.out _ hS.1).mono ?_
                rintro e1 w1 ⟨rfl, h9⟩
                have S1 : Below V1.heap.size V1 w1 ∧ Blk w1 g1 47 #[.slice A1 n1 c1, .int .u64 (h1 : Int), .int .u64 (l1 : Int), .int .u64 (x1 : Int), .int .u64 (o1 : Int), .bool f1] ∧ Blk w1 g2 47 #[.slice A2 n2 c2, .int .u64 (h2 : Int), .int .u64 (l2 : Int), .int .u64 (x2 : Int), .int .u64 (o2 : Int), .bool f2] := ⟨hS.1.trans (h9.mono hS.1.size), hS.2.1.below h9 hS.2.1.lt, hS.2.2.below h9 hS.2.2.lt⟩
                clear h9 hS
                refine hK.out _ _ S1 (fun hS => ?_)
                clear hK K S1
                refine wpAnyH_ready (rs := [5]) (by kernel_rfl) (by simp) ?_
                refine AllReadyH.cons rfl (fun K hK => ?_) AllReadyH.nil
                go_simp
                refine (HQ'.out _ hS.1).mono ?_
                rintro e2 w2 ⟨rfl, h9⟩
                have S2 : Below V1.heap.size V1 w2 ∧ Blk w2 g1 47 #[.slice A1 n1 c1, .int .u64 (h1 : Int), .int .u64 (l1 : Int), .int .u64 (x1 : Int), .int .u64 (o1 : Int), .bool f1] ∧ Blk w2 g2 47 #[.slice A2 n2 c2, .int .u64 (h2 : Int), .int .u64 (l2 : Int), .int .u64 (x2 : Int), .int .u64 (o2 : Int), .bool f2] := ⟨hS.1.trans (h9.mono hS.1.size), hS.2.1.below h9 hS.2.1.lt, hS.2.2.below h9 hS.2.2.lt⟩
                clear h9 hS
                refine hK.out _ _ S2 (fun hS => ?_)
                clear hK K S2
                refine wpAnyH_take (i := 6) (v := .bool false) rfl (by kernel_rfl) (by kernel_rfl) (by kernel_rfl) (fun _ _ _ h => h) (Or.inl ⟨by kernel_rfl, fun u hSw => (by go_simp)⟩) hS ?_
                change wpAnyH _ _ _ _ _ _ _ (Act.put _ (some 10) _) _
                simp only [Act.put]
                try simp only [List.setIfInBounds_toArray, List.set_cons_zero, List.set_cons_succ]
                refine wpAnyH_take (i := 7) (v := .bool false) rfl (by kernel_rfl) (by kernel_rfl) (by kernel_rfl) (fun _ _ _ h => h) (Or.inl ⟨by kernel_rfl, fun u hSw => (by go_simp)⟩) hS ?_
                change wpAnyH _ _ _ _ _ _ _ (Act.put _ (some 11) _) _
                simp only [Act.put]
                try simp only [List.setIfInBounds_toArray, List.set_cons_zero, List.set_cons_succ]
                refine wpAnyH_done (by kernel_rfl) ?_ _
                obtain ⟨BV, KD1, KD2⟩ := hS
                go_simp
                have z0 := KD1.cell 0
                have z1 := KD1.cell 1
                have z2 := KD1.cell 2
                have z3 := KD1.cell 3
                have z4 := KD1.cell 4
                have z5 := KD1.cell 5
                have y0 := KD2.cell 0
                have y1 := KD2.cell 1
                have y2 := KD2.cell 2
                have y3 := KD2.cell 3
                have y4 := KD2.cell 4
                have y5 := KD2.cell 5
                go_wp2_with fail
                refine (HLk.out _ BV).mono ?_
                rintro e w7 ⟨rfl, h9⟩
                replace KD1 := KD1.below h9 KD1.lt
                replace KD2 := KD2.below h9 KD2.lt
                replace BV := BV.trans (h9.mono BV.size)
                clear h9 z0 y0 z1 y1 z2 y2 z3 y3 z4 y4 z5 y5
                have z0 := KD1.cell 0
                have z1 := KD1.cell 1
                have z2 := KD1.cell 2
                have z3 := KD1.cell 3
                have z4 := KD1.cell 4
                have z5 := KD1.cell 5
                have y0 := KD2.cell 0
                have y1 := KD2.cell 1
                have y2 := KD2.cell 2
                have y3 := KD2.cell 3
                have y4 := KD2.cell 4
                have y5 := KD2.cell 5
                go_wp2_with fail
                refine (HLk.out _ BV).mono ?_
                rintro e w7 ⟨rfl, h9⟩
                replace KD1 := KD1.below h9 KD1.lt
                replace KD2 := KD2.below h9 KD2.lt
                replace BV := BV.trans (h9.mono BV.size)
                clear h9 z0 y0 z1 y1 z2 y2 z3 y3 z4 y4 z5 y5
                go_wp2_with fail
                obtain ⟨V3, hV3⟩ : ∃ x, x = w7 := ⟨_, rfl⟩
                rw [← hV3] at KD1 KD2 BV ⊢
                have HK3 := Lib.hid (And.intro KD1 (And.intro KD2 BV))
                clear KD1 KD2 BV hV3
                go_loopw [78] (fun i wr => ∃ j : Nat, j ≤ n3 ∧ i = .int .i64 (j : Int) ∧ Hid (Below V3.heap.size V3 wr)) (fun i _ => n3 - (intOf i).toNat)
                case atStart => exact ⟨0, by omega, rfl, Lib.hid (Below.refl _ _)⟩
                case round =>
                  obtain ⟨j3, hj3, rfl, HB3⟩ := hrel
                  by_cases hjt3 : j3 < n3
                  · obtain ⟨⟨⟨A3e, n3e, c3e, is3⟩, ⟨h3, l3, x3⟩, o3, f3⟩, hx3⟩ := elem_at (l := E) (k := j3) (by rw [HL.out]; exact hjt3)
                    have hm3 := List.mem_of_getElem? hx3
                    have BV3 := HK3.out.2.2.trans (HB3.out.mono HK3.out.2.2.size)
                    have BVV := HK1.out.2.trans (BV3.mono HK1.out.2.size)
                    obtain ⟨ad3, e3, _, d0, d1, d2, d3, d4, d5⟩ := (HQ.out.below BVV).at_ hx3
                    obtain rfl : ad = ad3 := by injection e3
                    have HE3 := Lib.hid (And.intro (HQ.out.u64 _ hm3) (And.intro (HCN.out _ hm3) (And.intro (HQ.out.mem _ hm3) (HQ.out.len_mem hm3))))
                    have i5 : (0 : Int) ≤ (j3 : Int) := by omega
                    have i6 : (j3 : Int) < (n3 : Int) := by omega
                    have BX := HB3.out.alloc HB3.out.size (.cells #[.slice A3e n3e c3e, .int .u64 (h3 : Int), .int .u64 (l3 : Int), .int .u64 (x3 : Int), .int .u64 (o3 : Int), .bool f3] 47)
                    have HBX := Lib.hid BX
                    clear hx3 hm3 e3 BV3 BVV BX
                    go_wp2_with fail
                    go_roundw
                    case rel => exact ⟨j3 + 1, by omega, by go_num, HBX⟩
                    case measure => simp [intOf] <;> omega
                  · obtain rfl : j3 = n3 := by omega
                    have HBE := Lib.hid (HK3.out.2.2.trans (HB3.out.mono HK3.out.2.2.size))
                    go_wp2_with fail
                    go_roundw
                    case rel => exact ⟨j2 + 1, by omega, by go_num, HBE⟩
                    case measure => simp [intOf] <;> omega
              | false =>
                have hpq := one_unlike HE1.out.2.1 HE2.out.2.1 hlk
                cases hq : aheadE (is2, (h2, l2, x2), o2, f2) (is1, (h1, l1, x1), o1, f1) with
                | false =>
                  have hp : aheadE (is1, (h1, l1, x1), o1, f1) (is2, (h2, l2, x2), o2, f2) = true := hpq.trans (by rw [show aheadE (et ((A2, n2, c2, is2), (h2, l2, x2), o2, f2)) (et ((A1, n1, c1, is1), (h1, l1, x1), o1, f1)) = false from hq]; rfl)
                  clear hpq
                  rw [show aheadE (is1, (h1, l1, x1), o1, f1) (is2, (h2, l2, x2), o2, f2) = true from hp] at HP
                  rw [show aheadE (is2, (h2, l2, x2), o2, f2) (is1, (h1, l1, x1), o1, f1) = false from hq] at HQ'
                  rw [show likeE (is1, (h1, l1, x1), o1, f1) (is2, (h2, l2, x2), o2, f2) = false from hlk] at HLk
                  refine wp_region_held_drew (S := fun u => Below V1.heap.size V1 u ∧ Blk u g1 47 #[.slice A1 n1 c1, .int .u64 (h1 : Int), .int .u64 (l1 : Int), .int .u64 (x1 : Int), .int .u64 (o1 : Int), .bool f1] ∧ Blk u g2 47 #[.slice A2 n2 c2, .int .u64 (h2 : Int), .int .u64 (l2 : Int), .int .u64 (x2 : Int), .int .u64 (o2 : Int), .bool f2]) (by kernel_rfl) ⟨BB.drew, KD1, KD2⟩ (fun hS => ?_)
                  clear BB KD1 KD2 hlk hq
                  generalize World.drew V2 = V2' at hS ⊢
                  refine wpAnyH_take (i := 0) (v := .agg #[.slice A1 n1 c1, .int .u64 (h1 : Int), .int .u64 (l1 : Int), .int .u64 (x1 : Int), .int .u64 (o1 : Int), .bool f1]) rfl (by kernel_rfl) (by kernel_rfl) (by kernel_rfl) (fun _ _ _ h => h) (Or.inl ⟨by kernel_rfl, fun u hSw => (by have q0 := hSw.2.1.cell 0; have q1 := hSw.2.1.cell 1; have q2 := hSw.2.1.cell 2; have q3 := hSw.2.1.cell 3; have q4 := hSw.2.1.cell 4; have q5 := hSw.2.1.cell 5; go_simp)⟩) hS ?_
                  change wpAnyH _ _ _ _ _ _ _ (Act.put _ (some 50) _) _
                  simp only [Act.put]
                  try simp only [List.setIfInBounds_toArray, List.set_cons_zero, List.set_cons_succ]
                  refine wpAnyH_take (i := 1) (v := .agg #[.slice A2 n2 c2, .int .u64 (h2 : Int), .int .u64 (l2 : Int), .int .u64 (x2 : Int), .int .u64 (o2 : Int), .bool f2]) rfl (by kernel_rfl) (by kernel_rfl) (by kernel_rfl) (fun _ _ _ h => h) (Or.inl ⟨by kernel_rfl, fun u hSw => (by have q0 := hSw.2.2.cell 0; have q1 := hSw.2.2.cell 1; have q2 := hSw.2.2.cell 2; have q3 := hSw.2.2.cell 3; have q4 := hSw.2.2.cell 4; have q5 := hSw.2.2.cell 5; go_simp)⟩) hS ?_
                  change wpAnyH _ _ _ _ _ _ _ (Act.put _ (some 51) _) _
                  simp only [Act.put]
                  try simp only [List.setIfInBounds_toArray, List.set_cons_zero, List.set_cons_succ]
                  refine wpAnyH_take (i := 3) (v := .agg #[.slice A2 n2 c2, .int .u64 (h2 : Int), .int .u64 (l2 : Int), .int .u64 (x2 : Int), .int .u64 (o2 : Int), .bool f2]) rfl (by kernel_rfl) (by kernel_rfl) (by kernel_rfl) (fun _ _ _ h => h) (Or.inl ⟨by kernel_rfl, fun u hSw => (by have q0 := hSw.2.2.cell 0; have q1 := hSw.2.2.cell 1; have q2 := hSw.2.2.cell 2; have q3 := hSw.2.2.cell 3; have q4 := hSw.2.2.cell 4; have q5 := hSw.2.2.cell 5; go_simp)⟩) hS ?_
                  change wpAnyH _ _ _ _ _ _ _ (Act.put _ (some 53) _) _
                  simp only [Act.put]
                  try simp only [List.setIfInBounds_toArray, List.set_cons_zero, List.set_cons_succ]
                  refine wpAnyH_take (i := 4) (v := .agg #[.slice A1 n1 c1, .int .u64 (h1 : Int), .int .u64 (l1 : Int), .int .u64 (x1 : Int), .int .u64 (o1 : Int), .bool f1]) rfl (by kernel_rfl) (by kernel_rfl) (by kernel_rfl) (fun _ _ _ h => h) (Or.inl ⟨by kernel_rfl, fun u hSw => (by have q0 := hSw.2.1.cell 0; have q1 := hSw.2.1.cell 1; have q2 := hSw.2.1.cell 2; have q3 := hSw.2.1.cell 3; have q4 := hSw.2.1.cell 4; have q5 := hSw.2.1.cell 5; go_simp)⟩) hS ?_
                  change wpAnyH _ _ _ _ _ _ _ (Act.put _ (some 54) _) _
                  simp only [Act.put]
                  try simp only [List.setIfInBounds_toArray, List.set_cons_zero, List.set_cons_succ]
                  refine wpAnyH_ready (rs := [2]) (by kernel_rfl) (by simp) ?_
                  refine AllReadyH.cons rfl (fun K hK => ?_) AllReadyH.nil
                  go_simp
                  refine (HP.out _ hS.1).mono ?_
                  rintro e1 w1 ⟨rfl, h9⟩
                  have S1 : Below V1.heap.size V1 w1 ∧ Blk w1 g1 47 #[.slice A1 n1 c1, .int .u64 (h1 : Int), .int .u64 (l1 : Int), .int .u64 (x1 : Int), .int .u64 (o1 : Int), .bool f1] ∧ Blk w1 g2 47 #[.slice A2 n2 c2, .int .u64 (h2 : Int), .int .u64 (l2 : Int), .int .u64 (x2 : Int), .int .u64 (o2 : Int), .bool f2] := ⟨hS.1.trans (h9.mono hS.1.size), hS.2.1.below h9 hS.2.1.lt, hS.2.2.below h9 hS.2.2.lt⟩
                  clear h9 hS
                  refine hK.out _ _ S1 (fun hS => ?_)
                  clear hK K S1
                  refine wpAnyH_ready (rs := [5]) (by kernel_rfl) (by simp) ?_
                  refine AllReadyH.cons rfl (fun K hK => ?_) AllReadyH.nil
                  go_simp
                  refine (HQ'.out _ hS.1).mono ?_
                  rintro e2 w2 ⟨rfl, h9⟩
                  have S2 : Below V1.heap.size V1 w2 ∧ Blk w2 g1 47 #[.slice A1 n1 c1, .int .u64 (h1 : Int), .int .u64 (l1 : Int), .int .u64 (x1 : Int), .int .u64 (o1 : Int), .bool f1] ∧ Blk w2 g2 47 #[.slice A2 n2 c2, .int .u64 (h2 : Int), .int .u64 (l2 : Int), .int .u64 (x2 : Int), .int .u64 (o2 : Int), .bool f2] := ⟨hS.1.trans (h9.mono hS.1.size), hS.2.1.below h9 hS.2.1.lt, hS.2.2.below h9 hS.2.2.lt⟩
                  clear h9 hS
                  refine hK.out _ _ S2 (fun hS => ?_)
                  clear hK K S2
                  refine wpAnyH_take (i := 6) (v := .bool true) rfl (by kernel_rfl) (by kernel_rfl) (by kernel_rfl) (fun _ _ _ h => h) (Or.inl ⟨by kernel_rfl, fun u hSw => (by go_simp)⟩) hS ?_
                  change wpAnyH _ _ _ _ _ _ _ (Act.put _ (some 10) _) _
                  simp only [Act.put]
                  try simp only [List.setIfInBounds_toArray, List.set_cons_zero, List.set_cons_succ]
                  refine wpAnyH_take (i := 7) (v := .bool false) rfl (by kernel_rfl) (by kernel_rfl) (by kernel_rfl) (fun _ _ _ h => h) (Or.inl ⟨by kernel_rfl, fun u hSw => (by go_simp)⟩) hS ?_
                  change wpAnyH _ _ _ _ _ _ _ (Act.put _ (some 11) _) _
                  simp only [Act.put]
                  try simp only [List.setIfInBounds_toArray, List.set_cons_zero, List.set_cons_succ]
                  refine wpAnyH_done (by kernel_rfl) ?_ _
                  obtain ⟨BV, KD1, KD2⟩ := hS
                  go_simp
                  have z0 := KD1.cell 0
                  have z1 := KD1.cell 1
                  have z2 := KD1.cell 2
                  have z3 := KD1.cell 3
                  have z4 := KD1.cell 4
                  have z5 := KD1.cell 5
                  have y0 := KD2.cell 0
                  have y1 := KD2.cell 1
                  have y2 := KD2.cell 2
                  have y3 := KD2.cell 3
                  have y4 := KD2.cell 4
                  have y5 := KD2.cell 5
                  go_wp2_with fail
                  refine (HLk.out _ BV).mono ?_
                  rintro e w7 ⟨rfl, h9⟩
                  replace KD1 := KD1.below h9 KD1.lt
                  replace KD2 := KD2.below h9 KD2.lt
                  replace BV := BV.trans (h9.mono BV.size)
                  clear h9 z0 y0 z1 y1 z2 y2 z3 y3 z4 y4 z5 y5
                  have z0 := KD1.cell 0
                  have z1 := KD1.cell 1
                  have z2 := KD1.cell 2
                  have z3 := KD1.cell 3
                  have z4 := KD1.cell 4
                  have z5 := KD1.cell 5
                  have y0 := KD2.cell 0
                  have y1 := KD2.cell 1
                  have y2 := KD2.cell 2
                  have y3 := KD2.cell 3
                  have y4 := KD2.cell 4
                  have y5 := KD2.cell 5
                  go_wp2_with fail
                  refine (HLk.out _ BV).mono ?_
                  rintro e w7 ⟨rfl, h9⟩
                  replace KD1 := KD1.below h9 KD1.lt
                  replace KD2 := KD2.below h9 KD2.lt
                  replace BV := BV.trans (h9.mono BV.size)
                  clear h9 z0 y0 z1 y1 z2 y2 z3 y3 z4 y4 z5 y5
                  go_wp2_with fail
                  obtain ⟨V3, hV3⟩ : ∃ x, x = w7 := ⟨_, rfl⟩
                  rw [← hV3] at KD1 KD2 BV ⊢
                  have HK3 := Lib.hid (And.intro KD1 (And.intro KD2 BV))
                  clear KD1 KD2 BV hV3
                  go_loopw [78] (fun i wr => ∃ j : Nat, j ≤ n3 ∧ i = .int .i64 (j : Int) ∧ Hid (Below V3.heap.size V3 wr)) (fun i _ => n3 - (intOf i).toNat)
                  case atStart => exact ⟨0, by omega, rfl, Lib.hid (Below.refl _ _)⟩
                  case round =>
                    obtain ⟨j3, hj3, rfl, HB3⟩ := hrel
                    by_cases hjt3 : j3 < n3
                    · obtain ⟨⟨⟨A3e, n3e, c3e, is3⟩, ⟨h3, l3, x3⟩, o3, f3⟩, hx3⟩ := elem_at (l := E) (k := j3) (by rw [HL.out]; exact hjt3)
                      have hm3 := List.mem_of_getElem? hx3
                      have BV3 := HK3.out.2.2.trans (HB3.out.mono HK3.out.2.2.size)
                      have BVV := HK1.out.2.trans (BV3.mono HK1.out.2.size)
                      obtain ⟨ad3, e3, _, d0, d1, d2, d3, d4, d5⟩ := (HQ.out.below BVV).at_ hx3
                      obtain rfl : ad = ad3 := by injection e3
                      have HE3 := Lib.hid (And.intro (HQ.out.u64 _ hm3) (And.intro (HCN.out _ hm3) (And.intro (HQ.out.mem _ hm3) (HQ.out.len_mem hm3))))
                      have i5 : (0 : Int) ≤ (j3 : Int) := by omega
                      have i6 : (j3 : Int) < (n3 : Int) := by omega
                      have BX := HB3.out.alloc HB3.out.size (.cells #[.slice A3e n3e c3e, .int .u64 (h3 : Int), .int .u64 (l3 : Int), .int .u64 (x3 : Int), .int .u64 (o3 : Int), .bool f3] 47)
                      have HBX := Lib.hid BX
                      have BU := HK3.out.2.2.trans (BX.mono HK3.out.2.2.size)
                      have BUV := Lib.hid (HK1.out.2.trans (BU.mono HK1.out.2.size))
                      have KD1 := HK3.out.1.below BX HK3.out.1.lt
                      have KD2 := HK3.out.2.1.below BX HK3.out.2.1.lt
                      have KD3 := Blk.new wr 47 #[.slice A3e n3e c3e, .int .u64 (h3 : Int), .int .u64 (l3 : Int), .int .u64 (x3 : Int), .int .u64 (o3 : Int), .bool f3]
                      have HR := Lib.hid (fun (u : World) (h : Below V.heap.size V u) => ahead_any A2 n2 c2 h2 l2 x2 o2 f2 is2 A3e n3e c3e h3 l3 x3 o3 f3 is3 u HE2.out.1.1 HE2.out.1.2.1 HE2.out.1.2.2 HE3.out.1.1 HE3.out.1.2.1 HE3.out.1.2.2 ((HE2.out.2.2.1.below h).more h.size) ((HE3.out.2.2.1.below h).more h.size))
                      have HT := Lib.hid (fun (u : World) (h : Below V.heap.size V u) => ahead_any A1 n1 c1 h1 l1 x1 o1 f1 is1 A3e n3e c3e h3 l3 x3 o3 f3 is3 u HE1.out.1.1 HE1.out.1.2.1 HE1.out.1.2.2 HE3.out.1.1 HE3.out.1.2.1 HE3.out.1.2.2 ((HE1.out.2.2.1.below h).more h.size) ((HE3.out.2.2.1.below h).more h.size))
                      clear hx3 hm3 e3 BV3 BVV BX
                      unfold agE at HR HT
                      cases hr : aheadE (is2, (h2, l2, x2), o2, f2) (is3, (h3, l3, x3), o3, f3) with
                      | false =>
                        rw [hr] at HR
                        clear hr
                        have z0 := KD1.cell 0
                        have z1 := KD1.cell 1
                        have z2 := KD1.cell 2
                        have z3 := KD1.cell 3
                        have z4 := KD1.cell 4
                        have z5 := KD1.cell 5
                        have y0 := KD2.cell 0
                        have y1 := KD2.cell 1
                        have y2 := KD2.cell 2
                        have y3 := KD2.cell 3
                        have y4 := KD2.cell 4
                        have y5 := KD2.cell 5
                        have q0 := KD3.cell 0
                        have q1 := KD3.cell 1
                        have q2 := KD3.cell 2
                        have q3 := KD3.cell 3
                        have q4 := KD3.cell 4
                        have q5 := KD3.cell 5
                        go_wp2_with fail
                        refine (HR.out _ BUV.out).mono ?_
                        rintro e w8 ⟨rfl, h9⟩
                        have HBX2 := Lib.hid (HBX.out.trans (h9.mono HBX.out.size))
                        clear h9
                        clear z0 z1 z2 z3 z4 z5 y0 y1 y2 y3 y4 y5 q0 q1 q2 q3 q4 q5
                        go_wp2_with fail
                        go_roundw
                        case rel => exact ⟨j3 + 1, by omega, by go_num, HBX2⟩
                        case measure => simp [intOf] <;> omega
                      | true =>
                        have ht := one_trans HE1.out.2.1 HE2.out.2.1 HE3.out.2.1 hp hr
                        rw [hr] at HR
                        rw [show aheadE (is1, (h1, l1, x1), o1, f1) (is3, (h3, l3, x3), o3, f3) = true from ht] at HT
                        clear hr ht
                        have z0 := KD1.cell 0
                        have z1 := KD1.cell 1
                        have z2 := KD1.cell 2
                        have z3 := KD1.cell 3
                        have z4 := KD1.cell 4
                        have z5 := KD1.cell 5
                        have y0 := KD2.cell 0
                        have y1 := KD2.cell 1
                        have y2 := KD2.cell 2
                        have y3 := KD2.cell 3
                        have y4 := KD2.cell 4
                        have y5 := KD2.cell 5
                        have q0 := KD3.cell 0
                        have q1 := KD3.cell 1
                        have q2 := KD3.cell 2
                        have q3 := KD3.cell 3
                        have q4 := KD3.cell 4
                        have q5 := KD3.cell 5
                        go_wp2_with fail
                        refine (HR.out _ BUV.out).mono ?_
                        rintro e w8 ⟨rfl, h9⟩
                        replace KD1 := KD1.below h9 KD1.lt
                        replace KD3 := KD3.below h9 KD3.lt
                        have HBX2 := Lib.hid (HBX.out.trans (h9.mono HBX.out.size))
                        have BUV2 := Lib.hid (BUV.out.trans (h9.mono BUV.out.size))
                        clear h9
                        clear z0 z1 z2 z3 z4 z5 y0 y1 y2 y3 y4 y5 q0 q1 q2 q3 q4 q5
                        have z0 := KD1.cell 0
                        have z1 := KD1.cell 1
                        have z2 := KD1.cell 2
                        have z3 := KD1.cell 3
                        have z4 := KD1.cell 4
                        have z5 := KD1.cell 5
                        have q0 := KD3.cell 0
                        have q1 := KD3.cell 1
                        have q2 := KD3.cell 2
                        have q3 := KD3.cell 3
                        have q4 := KD3.cell 4
                        have q5 := KD3.cell 5
                        go_wp2_with fail
                        refine (HT.out _ BUV2.out).mono ?_
                        rintro e w9 ⟨rfl, h9⟩
                        have HBX3 := Lib.hid (HBX2.out.trans (h9.mono HBX2.out.size))
                        clear h9
                        clear z0 z1 z2 z3 z4 z5 q0 q1 q2 q3 q4 q5
                        go_wp2_with fail
                        go_roundw
                        case rel => exact ⟨j3 + 1, by omega, by go_num, HBX3⟩
                        case measure => simp [intOf] <;> omega
                    · obtain rfl : j3 = n3 := by omega
                      have HBE := Lib.hid (HK3.out.2.2.trans (HB3.out.mono HK3.out.2.2.size))
                      go_wp2_with fail
                      go_roundw
                      case rel => exact ⟨j2 + 1, by omega, by go_num, HBE⟩
                      case measure => simp [intOf] <;> omega
                | true =>
                  have hp : aheadE (is1, (h1, l1, x1), o1, f1) (is2, (h2, l2, x2), o2, f2) = false := hpq.trans (by rw [show aheadE (et ((A2, n2, c2, is2), (h2, l2, x2), o2, f2)) (et ((A1, n1, c1, is1), (h1, l1, x1), o1, f1)) = true from hq]; rfl)
                  clear hpq
                  rw [show aheadE (is1, (h1, l1, x1), o1, f1) (is2, (h2, l2, x2), o2, f2) = false from hp] at HP
                  rw [show aheadE (is2, (h2, l2, x2), o2, f2) (is1, (h1, l1, x1), o1, f1) = true from hq] at HQ'
                  rw [show likeE (is1, (h1, l1, x1), o1, f1) (is2, (h2, l2, x2), o2, f2) = false from hlk] at HLk
                  refine wp_region_held_drew (S := fun u => Below V1.heap.size V1 u ∧ Blk u g1 47 #[.slice A1 n1 c1, .int .u64 (h1 : Int), .int .u64 (l1 : Int), .int .u64 (x1 : Int), .int .u64 (o1 : Int), .bool f1] ∧ Blk u g2 47 #[.slice A2 n2 c2, .int .u64 (h2 : Int), .int .u64 (l2 : Int), .int .u64 (x2 : Int), .int .u64 (o2 : Int), .bool f2]) (by kernel_rfl) ⟨BB.drew, KD1, KD2⟩ (fun hS => ?_)
                  clear BB KD1 KD2 hlk hq hp
                  generalize World.drew V2 = V2' at hS ⊢
                  refine wpAnyH_take (i := 0) (v := .agg #[.slice A1 n1 c1, .int .u64 (h1 : Int), .int .u64 (l1 : Int), .int .u64 (x1 : Int), .int .u64 (o1 : Int), .bool f1]) rfl (by kernel_rfl) (by kernel_rfl) (by kernel_rfl) (fun _ _ _ h => h) (Or.inl ⟨by kernel_rfl, fun u hSw => (by have q0 := hSw.2.1.cell 0; have q1 := hSw.2.1.cell 1; have q2 := hSw.2.1.cell 2; have q3 := hSw.2.1.cell 3; have q4 := hSw.2.1.cell 4; have q5 := hSw.2.1.cell 5; go_simp)⟩) hS ?_
                  change wpAnyH _ _ _ _ _ _ _ (Act.put _ (some 50) _) _
                  simp only [Act.put]
                  try simp only [List.setIfInBounds_toArray, List.set_cons_zero, List.set_cons_succ]
                  refine wpAnyH_take (i := 1) (v := .agg #[.slice A2 n2 c2, .int .u64 (h2 : Int), .int .u64 (l2 : Int), .int .u64 (x2 : Int), .int .u64 (o2 : Int), .bool f2]) rfl (by kernel_rfl) (by kernel_rfl) (by kernel_rfl) (fun _ _ _ h => h) (Or.inl ⟨by kernel_rfl, fun u hSw => (by have q0 := hSw.2.2.cell 0; have q1 := hSw.2.2.cell 1; have q2 := hSw.2.2.cell 2; have q3 := hSw.2.2.cell 3; have q4 := hSw.2.2.cell 4; have q5 := hSw.2.2.cell 5; go_simp)⟩) hS ?_
                  change wpAnyH _ _ _ _ _ _ _ (Act.put _ (some 51) _) _
                  simp only [Act.put]
                  try simp only [List.setIfInBounds_toArray, List.set_cons_zero, List.set_cons_succ]
                  refine wpAnyH_take (i := 3) (v := .agg #[.slice A2 n2 c2, .int .u64 (h2 : Int), .int .u64 (l2 : Int), .int .u64 (x2 : Int), .int .u64 (o2 : Int), .bool f2]) rfl (by kernel_rfl) (by kernel_rfl) (by kernel_rfl) (fun _ _ _ h => h) (Or.inl ⟨by kernel_rfl, fun u hSw => (by have q0 := hSw.2.2.cell 0; have q1 := hSw.2.2.cell 1; have q2 := hSw.2.2.cell 2; have q3 := hSw.2.2.cell 3; have q4 := hSw.2.2.cell 4; have q5 := hSw.2.2.cell 5; go_simp)⟩) hS ?_
                  change wpAnyH _ _ _ _ _ _ _ (Act.put _ (some 53) _) _
                  simp only [Act.put]
                  try simp only [List.setIfInBounds_toArray, List.set_cons_zero, List.set_cons_succ]
                  refine wpAnyH_take (i := 4) (v := .agg #[.slice A1 n1 c1, .int .u64 (h1 : Int), .int .u64 (l1 : Int), .int .u64 (x1 : Int), .int .u64 (o1 : Int), .bool f1]) rfl (by kernel_rfl) (by kernel_rfl) (by kernel_rfl) (fun _ _ _ h => h) (Or.inl ⟨by kernel_rfl, fun u hSw => (by have q0 := hSw.2.1.cell 0; have q1 := hSw.2.1.cell 1; have q2 := hSw.2.1.cell 2; have q3 := hSw.2.1.cell 3; have q4 := hSw.2.1.cell 4; have q5 := hSw.2.1.cell 5; go_simp)⟩) hS ?_
                  change wpAnyH _ _ _ _ _ _ _ (Act.put _ (some 54) _) _
                  simp only [Act.put]
                  try simp only [List.setIfInBounds_toArray, List.set_cons_zero, List.set_cons_succ]
                  refine wpAnyH_ready (rs := [2]) (by kernel_rfl) (by simp) ?_
                  refine AllReadyH.cons rfl (fun K hK => ?_) AllReadyH.nil
                  go_simp
                  refine (HP.out _ hS.1).mono ?_
                  rintro e1 w1 ⟨rfl, h9⟩
                  have S1 : Below V1.heap.size V1 w1 ∧ Blk w1 g1 47 #[.slice A1 n1 c1, .int .u64 (h1 : Int), .int .u64 (l1 : Int), .int .u64 (x1 : Int), .int .u64 (o1 : Int), .bool f1] ∧ Blk w1 g2 47 #[.slice A2 n2 c2, .int .u64 (h2 : Int), .int .u64 (l2 : Int), .int .u64 (x2 : Int), .int .u64 (o2 : Int), .bool f2] := ⟨hS.1.trans (h9.mono hS.1.size), hS.2.1.below h9 hS.2.1.lt, hS.2.2.below h9 hS.2.2.lt⟩
                  clear h9 hS
                  refine hK.out _ _ S1 (fun hS => ?_)
                  clear hK K S1
                  refine wpAnyH_ready (rs := [5]) (by kernel_rfl) (by simp) ?_
                  refine AllReadyH.cons rfl (fun K hK => ?_) AllReadyH.nil
                  go_simp
                  refine (HQ'.out _ hS.1).mono ?_
                  rintro e2 w2 ⟨rfl, h9⟩
                  have S2 : Below V1.heap.size V1 w2 ∧ Blk w2 g1 47 #[.slice A1 n1 c1, .int .u64 (h1 : Int), .int .u64 (l1 : Int), .int .u64 (x1 : Int), .int .u64 (o1 : Int), .bool f1] ∧ Blk w2 g2 47 #[.slice A2 n2 c2, .int .u64 (h2 : Int), .int .u64 (l2 : Int), .int .u64 (x2 : Int), .int .u64 (o2 : Int), .bool f2] := ⟨hS.1.trans (h9.mono hS.1.size), hS.2.1.below h9 hS.2.1.lt, hS.2.2.below h9 hS.2.2.lt⟩
                  clear h9 hS
                  refine hK.out _ _ S2 (fun hS => ?_)
                  clear hK K S2
                  refine wpAnyH_take (i := 6) (v := .bool false) rfl (by kernel_rfl) (by kernel_rfl) (by kernel_rfl) (fun _ _ _ h => h) (Or.inl ⟨by kernel_rfl, fun u hSw => (by go_simp)⟩) hS ?_
                  change wpAnyH _ _ _ _ _ _ _ (Act.put _ (some 10) _) _
                  simp only [Act.put]
                  try simp only [List.setIfInBounds_toArray, List.set_cons_zero, List.set_cons_succ]
                  refine wpAnyH_take (i := 7) (v := .bool true) rfl (by kernel_rfl) (by kernel_rfl) (by kernel_rfl) (fun _ _ _ h => h) (Or.inl ⟨by kernel_rfl, fun u hSw => (by go_simp)⟩) hS ?_
                  change wpAnyH _ _ _ _ _ _ _ (Act.put _ (some 11) _) _
                  simp only [Act.put]
                  try simp only [List.setIfInBounds_toArray, List.set_cons_zero, List.set_cons_succ]
                  refine wpAnyH_done (by kernel_rfl) ?_ _
                  obtain ⟨BV, KD1, KD2⟩ := hS
                  go_simp
                  have z0 := KD1.cell 0
                  have z1 := KD1.cell 1
                  have z2 := KD1.cell 2
                  have z3 := KD1.cell 3
                  have z4 := KD1.cell 4
                  have z5 := KD1.cell 5
                  have y0 := KD2.cell 0
                  have y1 := KD2.cell 1
                  have y2 := KD2.cell 2
                  have y3 := KD2.cell 3
                  have y4 := KD2.cell 4
                  have y5 := KD2.cell 5
                  go_wp2_with fail
                  refine (HLk.out _ BV).mono ?_
                  rintro e w7 ⟨rfl, h9⟩
                  replace KD1 := KD1.below h9 KD1.lt
                  replace KD2 := KD2.below h9 KD2.lt
                  replace BV := BV.trans (h9.mono BV.size)
                  clear h9 z0 y0 z1 y1 z2 y2 z3 y3 z4 y4 z5 y5
                  have z0 := KD1.cell 0
                  have z1 := KD1.cell 1
                  have z2 := KD1.cell 2
                  have z3 := KD1.cell 3
                  have z4 := KD1.cell 4
                  have z5 := KD1.cell 5
                  have y0 := KD2.cell 0
                  have y1 := KD2.cell 1
                  have y2 := KD2.cell 2
                  have y3 := KD2.cell 3
                  have y4 := KD2.cell 4
                  have y5 := KD2.cell 5
                  go_wp2_with fail
                  refine (HLk.out _ BV).mono ?_
                  rintro e w7 ⟨rfl, h9⟩
                  replace KD1 := KD1.below h9 KD1.lt
                  replace KD2 := KD2.below h9 KD2.lt
                  replace BV := BV.trans (h9.mono BV.size)
                  clear h9 z0 y0 z1 y1 z2 y2 z3 y3 z4 y4 z5 y5
                  go_wp2_with fail
                  obtain ⟨V3, hV3⟩ : ∃ x, x = w7 := ⟨_, rfl⟩
                  rw [← hV3] at KD1 KD2 BV ⊢
                  have HK3 := Lib.hid (And.intro KD1 (And.intro KD2 BV))
                  clear KD1 KD2 BV hV3
                  go_loopw [78] (fun i wr => ∃ j : Nat, j ≤ n3 ∧ i = .int .i64 (j : Int) ∧ Hid (Below V3.heap.size V3 wr)) (fun i _ => n3 - (intOf i).toNat)
                  case atStart => exact ⟨0, by omega, rfl, Lib.hid (Below.refl _ _)⟩
                  case round =>
                    obtain ⟨j3, hj3, rfl, HB3⟩ := hrel
                    by_cases hjt3 : j3 < n3
                    · obtain ⟨⟨⟨A3e, n3e, c3e, is3⟩, ⟨h3, l3, x3⟩, o3, f3⟩, hx3⟩ := elem_at (l := E) (k := j3) (by rw [HL.out]; exact hjt3)
                      have hm3 := List.mem_of_getElem? hx3
                      have BV3 := HK3.out.2.2.trans (HB3.out.mono HK3.out.2.2.size)
                      have BVV := HK1.out.2.trans (BV3.mono HK1.out.2.size)
                      obtain ⟨ad3, e3, _, d0, d1, d2, d3, d4, d5⟩ := (HQ.out.below BVV).at_ hx3
                      obtain rfl : ad = ad3 := by injection e3
                      have HE3 := Lib.hid (And.intro (HQ.out.u64 _ hm3) (And.intro (HCN.out _ hm3) (And.intro (HQ.out.mem _ hm3) (HQ.out.len_mem hm3))))
                      have i5 : (0 : Int) ≤ (j3 : Int) := by omega
                      have i6 : (j3 : Int) < (n3 : Int) := by omega
                      have BX := HB3.out.alloc HB3.out.size (.cells #[.slice A3e n3e c3e, .int .u64 (h3 : Int), .int .u64 (l3 : Int), .int .u64 (x3 : Int), .int .u64 (o3 : Int), .bool f3] 47)
                      have HBX := Lib.hid BX
                      clear hx3 hm3 e3 BV3 BVV BX
                      go_wp2_with fail
                      go_roundw
                      case rel => exact ⟨j3 + 1, by omega, by go_num, HBX⟩
                      case measure => simp [intOf] <;> omega
                    · obtain rfl : j3 = n3 := by omega
                      have HBE := Lib.hid (HK3.out.2.2.trans (HB3.out.mono HK3.out.2.2.size))
                      go_wp2_with fail
                      go_roundw
                      case rel => exact ⟨j2 + 1, by omega, by go_num, HBE⟩
                      case measure => simp [intOf] <;> omega
            · obtain rfl : j2 = n3 := by omega
              have HBE := Lib.hid (HK1.out.2.trans (HB2.out.mono HK1.out.2.size))
              go_wp2_with fail
              go_roundw
              case rel => exact ⟨j1 + 1, by omega, by go_num, HBE⟩
              case measure => simp [intOf] <;> omega
        · obtain rfl : j1 = n3 := by omega
          have HBE := Lib.hid (HGV.out.trans (HB1.out.mono HGV.out.size))
          go_wp2_with fail
          go_ret
          exact ⟨rfl, HBE.out⟩

end Go.Proofs.Ytniilfcbiliegaa
