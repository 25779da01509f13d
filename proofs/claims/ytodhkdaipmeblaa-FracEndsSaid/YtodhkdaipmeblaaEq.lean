/-
  The landed frac: FracEnds' walk. No statement is proved here.
-/
import Derived.Test.YtodhkdaipmeblaaEp
import Derived.Test.YtodhkdaipmeblaaFd
namespace Go.Proofs.Ytodhkdaipmeblaa
open Go.RowKit

theorem frac_info : (Try.prog.info? 26).map (fun i => (i.zero, i.size, i.bytes)) = some (some (.agg #[.int .u64 0, .int .u64 0, .int .u64 0]), 3, 24) := by kernel_rfl
theorem own_reads {w : World} {base n : Nat} {e : TypeId} {v : Value} {l : List (Nat × Nat × Nat)} (h : w.ownsRow base e 3 v n (fvs l)) : ∃ A c, v = .slice A n c ∧ Frow w w.heap.size A l := by
  obtain ⟨A, c, rfl⟩ : ∃ A c, v = .slice A n c := by
    rcases h.2 with ⟨rfl, h0⟩ | ⟨g, cap, cur, rfl, _⟩
    · exact ⟨none, 0, by rw [h0]⟩
    · exact ⟨_, _, rfl⟩
  exact ⟨A, c, rfl, (Reads.of_own h).frow⟩
theorem cmpI_pos (x y : Nat) : decide (0 < cmpI x y) = decide (y < x) := cmpW_pos x y
theorem cmpI_minus (x y : Nat) : decide (cmpI x y < 0) = decide (x < y) := cmpW_minus x y
theorem all_and {l : List (Nat × Nat × Nat)} {k p q x : Nat} (h : l[k]? = some (p, q, x)) : allB (l.take (k + 1)) = (allB (l.take k) && rightB p x) := by
  rw [List.take_add_one, h]
  unfold allB
  rw [List.all_append]
  simp

set_option maxRecDepth 100000 in
set_option maxHeartbeats 8000000 in
theorem ends_walk (A : Option Addr) (n c : Nat) (l : List (Nat × Nat × Nat)) (w : World) (hl : l.length = n) (hn : n ≤ maxLen) (hs : Small l) (hr : Reads w w.heap.size 3 A n (fvs l))
    (hk : ∀ u, Calls Try.prog 9 #[] u (Said (.bool true) u)) :
    Calls Try.prog 5 #[.slice A n c] w (Said (.bool true) w) := by
  unfold maxLen at hn
  have HK := Lib.hid hk
  clear hk
  by_cases h100 : n ≤ 100
  · obtain ⟨i0, hi0, hz0, hz1, hz2⟩ := info_parts frac_info
    have HL := Lib.hid hl
    have HS := Lib.hid hs
    have HR := Lib.hid hr
    have H100 := Lib.hid h100
    by_cases hgood : 0 < n ∧ allB l = true
    · obtain ⟨k1, ht1⟩ := top_some (a := aF l) (b := bF l) hgood.1 (fun j hj => bF_pos hgood.2 j (by omega))
      obtain ⟨k2, ht2⟩ := bot_some (a := aF l) (b := bF l) hgood.1 (fun j hj => bF_pos hgood.2 j (by omega))
      have H1 : Hid (Found Top l k1 true) := Lib.hid (.inl ⟨rfl, by omega, hgood.2, by rw [hl]; exact ht1⟩)
      have H2 : Hid (Found Bot l k2 true) := Lib.hid (.inl ⟨rfl, by omega, hgood.2, by rw [hl]; exact ht2⟩)
      have HT1 := Lib.hid ht1
      have HT2 := Lib.hid ht2
      have HN := Lib.hid hgood.1
      have HA := Lib.hid hgood.2
      have e0 : decide ((0 : Int) < (n : Int)) = true := by simp; omega
      have e0n : decide (0 < n) = true := by simp; omega
      clear hl hs hr ht1 ht2 hgood
      go_enter Try.func5, Try.ntmps5
      go_wp2_with fail
      refine (HK.out _).mono ?_
      rintro e w1 ⟨rfl, B1⟩
      have zw1 := B1.size
      have HRw := Lib.hid ((HR.out.below B1).alloc zw1 (.cells #[] 26))
      have HBn := Lib.hid B1
      clear B1
      go_wp2_with (
        at_builtin
        refine wpList_append_any _ rfl (.tmp 19) (.tmp 20) 49 rfl w.heap.size 26 i0 (.agg #[.int .u64 0, .int .u64 0, .int .u64 0]) 3 24 Try.underlying49 hi0 hz0 hz1 hz2 rfl (by decide) (.slice (some ⟨w1.heap.size, 0, none⟩) 0 0) 0 [] rfl (World.ownsRow_made _ _ _ (by omega) (by simp [maxLen]) (by simp)) w.heap.size A n c (fvs l) rfl HRw.out (fvs_ones l) (by simp only [maxLen]; omega) (by omega) (by simp; omega) ?_
        intro v2 uw1 hown2 hg2 _
        rw [List.nil_append, Nat.zero_add] at hown2
        obtain ⟨A2, c2, rfl, hf2⟩ := own_reads hown2
        have HF2 := Lib.hid hf2
        have HB2 := Lib.hid ((HBn.out.alloc zw1 (.cells #[] 26)).grown hg2 (by simp; omega) (fun g hg => by simp [Value.ownBlock] at hg; omega))
        clear hown2 hg2 hf2 HRw HBn)
      refine (most_any A2 n c2 l uw1 HL.out H100.out HS.out HF2.out k1 true H1.out).mono ?_
      rintro e w1' ⟨rfl, h2⟩
      have B1' := HB2.out.trans (h2.mono HB2.out.size)
      clear h2 HF2 HB2 zw1
      have zw1' := B1'.size
      have HRw := Lib.hid ((HR.out.below B1').alloc zw1' (.cells #[] 26))
      have HBn := Lib.hid B1'
      clear B1'
      go_wp2_with (
        at_builtin
        refine wpList_append_any _ rfl (.tmp 26) (.tmp 27) 49 rfl w.heap.size 26 i0 (.agg #[.int .u64 0, .int .u64 0, .int .u64 0]) 3 24 Try.underlying49 hi0 hz0 hz1 hz2 rfl (by decide) (.slice (some ⟨w1'.heap.size, 0, none⟩) 0 0) 0 [] rfl (World.ownsRow_made _ _ _ (by omega) (by simp [maxLen]) (by simp)) w.heap.size A n c (fvs l) rfl HRw.out (fvs_ones l) (by simp only [maxLen]; omega) (by omega) (by simp; omega) ?_
        intro v2 uw1' hown2 hg2 _
        rw [List.nil_append, Nat.zero_add] at hown2
        obtain ⟨A2, c2, rfl, hf2⟩ := own_reads hown2
        have HF2 := Lib.hid hf2
        have HB2 := Lib.hid ((HBn.out.alloc zw1' (.cells #[] 26)).grown hg2 (by simp; omega) (fun g hg => by simp [Value.ownBlock] at hg; omega))
        clear hown2 hg2 hf2 HRw HBn)
      refine (least_any A2 n c2 l uw1' HL.out H100.out HS.out HF2.out k2 true H2.out).mono ?_
      rintro e w1'' ⟨rfl, h2⟩
      have B1'' := HB2.out.trans (h2.mono HB2.out.size)
      clear h2 HF2 HB2 zw1'
      clear HK H1 H2 hi0 hz0 hz1 hz2
      have B1 := B1''
      clear B1''
      go_wp2_with fail
      go_loopw [9, 37] (fun s i wr => ∃ k : Nat, k ≤ n ∧ s = .bool true ∧ i = .int .i64 (k : Int) ∧ Below w.heap.size w wr) (fun _ i _ => n - (intOf i).toNat)
      case atStart => exact ⟨0, by omega, rfl, rfl, B1⟩
      case round =>
        obtain ⟨k, hk, rfl, rfl, hB⟩ := hrel
        by_cases hlt : k < n
        · obtain ⟨p, q, x, hm⟩ := each_at (l := l) (k := k) (by rw [HL.out]; exact hlt)
          obtain ⟨ad, rfl, hb, d0, d1, d2⟩ := (HR.out.frow.below hB (Nat.le_refl _)) k p q x hm
          have HRt := Lib.hid (fun u => (all_each HA.out hm) ▸ rright_any p q x u)
          have hsz := hB.size
          clear hm
          unfold fr at HRt
          go_wp2_with fail
          refine (HRt.out _).mono ?_
          rintro e w2 ⟨rfl, h2⟩
          have B2 := (hB.alloc hsz _).trans (h2.mono (by simp; omega))
          clear h2 hB d0 d1 d2
          go_wp2
          go_roundw
          case rel => exact ⟨k + 1, by omega, rfl, by go_num, B2⟩
          case measure => simp [intOf]; omega
        · obtain rfl : n = k := by omega
          have B1 := hB
          clear hB

          go_wp2_with fail
          go_loopw [7, 8, 12] (fun a b i wr => ∃ k m1 m2 : Nat, k ≤ n ∧ m1 < n ∧ m2 < n ∧ a = .int .i64 (m1 : Int) ∧ b = .int .i64 (m2 : Int) ∧ i = .int .i64 (k : Int) ∧ Hid (Up (aF l) (bF l) k m1) ∧ Hid (Dn (aF l) (bF l) k m2) ∧ Below w.heap.size w wr) (fun _ _ i _ => n - (intOf i).toNat)
          case atStart => exact ⟨0, 0, 0, by omega, HN.out, HN.out, rfl, rfl, rfl, Lib.hid (.inl ⟨rfl, rfl⟩), Lib.hid (.inl ⟨rfl, rfl⟩), B1⟩
          case round =>
            obtain ⟨k, m1, m2, hk, hm1, hm2, rfl, rfl, rfl, HU0, HD0, hB⟩ := hrel
            by_cases hlt : k < n
            · obtain ⟨p, q, x, hm⟩ := each_at (l := l) (k := k) (by rw [HL.out]; exact hlt)
              obtain ⟨pm, qm, xm, hmm⟩ := each_at (l := l) (k := m1) (by rw [HL.out]; exact hm1)
              obtain ⟨pn, qn, xn, hmn⟩ := each_at (l := l) (k := m2) (by rw [HL.out]; exact hm2)
              have FR := HR.out.frow.below hB (Nat.le_refl _)
              obtain ⟨ad, rfl, hb, _, _, _⟩ := FR k p q x hm
              have HM := Lib.hid hm
              have HMm := Lib.hid hmm
              have HMn := Lib.hid hmn
              have s0 := HS.out k p q x hm
              have s1 := HS.out m1 pm qm xm hmm
              have s2 := HS.out m2 pn qn xn hmn
              have hv1 := fun u => rcompare_any p q x pm qm xm u s0.1 s0.2.1 s0.2.2 s1.1 s1.2.1 s1.2.2
              have hv2 := fun u => rcompare_any p q x pn qn xn u s0.1 s0.2.1 s0.2.2 s2.1 s2.2.1 s2.2.2
              have t0 := ab_at hm
              have t1 := ab_at hmm
              have t2 := ab_at hmn
              obtain ⟨r1, hr1⟩ : ∃ r, cmpI ((p * 2 ^ 64 + q) * xm) ((pm * 2 ^ 64 + qm) * x) = r := ⟨_, rfl⟩
              obtain ⟨r2, hr2⟩ : ∃ r, cmpI ((p * 2 ^ 64 + q) * xn) ((pn * 2 ^ 64 + qn) * x) = r := ⟨_, rfl⟩
              rw [hr1] at hv1
              rw [hr2] at hv2
              have HV1 := Lib.hid hv1
              have HV2 := Lib.hid hv2
              have hpos : ∀ j, j < k → 0 < bF l j := fun j hj => bF_pos HA.out j (by rw [HL.out]; omega)
              have GB := hB
              have k0 : (0 : Int) ≤ (k : Int) := by omega
              have k1' : (k : Int) < (n : Int) := by omega
              have m10 : (0 : Int) ≤ (m1 : Int) := by omega
              have m11 : (m1 : Int) < (n : Int) := by omega
              have m20 : (0 : Int) ≤ (m2 : Int) := by omega
              have m21 : (m2 : Int) < (n : Int) := by omega
              clear hm hmm hmn s0 s1 s2 hv1 hv2 hB hb
              unfold fr at HV1 HV2
              by_cases g1 : aF l m1 * bF l k < aF l k * bF l m1
              · have g1' := g1
                rw [t0.1, t0.2, t1.1, t1.2] at g1'
                by_cases g2 : aF l k * bF l m2 < aF l m2 * bF l k
                · have g2' := g2
                  rw [t0.1, t0.2, t2.1, t2.2] at g2'
                  clear t0 t1 t2
                  have HU := Lib.hid (HU0.out.yes hpos g1)
                  have HD := Lib.hid (HD0.out.yes hpos g2)
                  have q1 : decide (0 < r1) = true := by rw [← hr1, cmpI_pos]; exact decide_eq_true g1'
                  have q2 : decide (r2 < 0) = true := by rw [← hr2, cmpI_minus]; exact decide_eq_true g2'
                  clear g1 g2 g1' g2' hr1 hr2 hpos HU0 HD0
                  go_upto_region 16 with fail
                  replace FR : Frow (World.drew _) _ _ _ := FR
                  replace GB := GB.drew
                  refine wp_region_held_drew (S := fun W => Frow W w.heap.size (some ad) l) (by kernel_rfl) FR (fun hS => ?_)
                  generalize World.drew _ = V at FR GB hS ⊢
                  refine wpAnyH_take (i := 0) (v := .slice (some ad) n c) rfl (by kernel_rfl) (by kernel_rfl) (by kernel_rfl) (fun _ _ _ h => h) (Or.inl ⟨by rfl, fun u hSw => (by go_simp)⟩) hS ?_
                  refine wpAnyH_take (i := 1) (v := .int .i64 (k : Int)) rfl (by kernel_rfl) (by kernel_rfl) (by kernel_rfl) (fun _ _ _ h => h) (Or.inl ⟨by rfl, fun u hSw => (by go_simp)⟩) hS ?_
                  refine wpAnyH_take (i := 2) (v := .pointer (some (ad.add (k * 3)))) rfl (by kernel_rfl) (by kernel_rfl) (by kernel_rfl) (fun _ _ _ h => h) (Or.inl ⟨by rfl, fun u hSw => (by go_simp)⟩) hS ?_
                  refine wpAnyH_take (i := 3) (v := .agg #[.int .u64 (p : Int), .int .u64 (q : Int), .int .u64 (x : Int)]) rfl (by kernel_rfl) (by kernel_rfl) (by kernel_rfl) (fun _ _ _ h => h) (Or.inl ⟨by rfl, fun u hSw => (by obtain ⟨ad2, e, _, c0, c1, c2⟩ := hSw k p q x HM.out; obtain rfl := Option.some.inj e; go_simp)⟩) hS ?_
                  refine wpAnyH_take (i := 4) (v := .slice (some ad) n c) rfl (by kernel_rfl) (by kernel_rfl) (by kernel_rfl) (fun _ _ _ h => h) (Or.inl ⟨by rfl, fun u hSw => (by go_simp)⟩) hS ?_
                  refine wpAnyH_take (i := 5) (v := .int .i64 (m1 : Int)) rfl (by kernel_rfl) (by kernel_rfl) (by kernel_rfl) (fun _ _ _ h => h) (Or.inl ⟨by rfl, fun u hSw => (by go_simp)⟩) hS ?_
                  refine wpAnyH_take (i := 6) (v := .pointer (some (ad.add (m1 * 3)))) rfl (by kernel_rfl) (by kernel_rfl) (by kernel_rfl) (fun _ _ _ h => h) (Or.inl ⟨by rfl, fun u hSw => (by go_simp)⟩) hS ?_
                  refine wpAnyH_take (i := 7) (v := .agg #[.int .u64 (pm : Int), .int .u64 (qm : Int), .int .u64 (xm : Int)]) rfl (by kernel_rfl) (by kernel_rfl) (by kernel_rfl) (fun _ _ _ h => h) (Or.inl ⟨by rfl, fun u hSw => (by obtain ⟨ad2, e, _, c0, c1, c2⟩ := hSw m1 pm qm xm HMm.out; obtain rfl := Option.some.inj e; go_simp)⟩) hS ?_
                  refine wpAnyH_ready (rs := [8]) (by kernel_rfl) (by simp) ?_
                  refine AllReadyH.cons rfl (fun K hK => ?_) AllReadyH.nil
                  go_simp
                  refine (HV1.out _).mono ?_
                  rintro e w16 ⟨rfl, h1⟩
                  replace FR := FR.below h1 (by have := GB.size; omega)
                  replace GB := GB.trans (h1.mono GB.size)
                  clear h1
                  refine hK.out _ _ FR (fun hS => ?_)
                  clear hK K
                  refine wpAnyH_take (i := 9) (v := .bool true) rfl (by kernel_rfl) (by kernel_rfl) (by kernel_rfl) (fun _ _ _ h => h) (Or.inl ⟨by rfl, fun u hSw => (by go_simp)⟩) hS ?_
                  refine wpAnyH_done (by kernel_rfl) ?_ _
                  clear hS
                  go_upto_region 18 with fail
                  replace FR : Frow (World.drew _) _ _ _ := FR
                  replace GB := GB.drew
                  refine wp_region_held_drew (S := fun W => Frow W w.heap.size (some ad) l) (by kernel_rfl) FR (fun hS => ?_)
                  generalize World.drew _ = V at FR GB hS ⊢
                  refine wpAnyH_take (i := 0) (v := .slice (some ad) n c) rfl (by kernel_rfl) (by kernel_rfl) (by kernel_rfl) (fun _ _ _ h => h) (Or.inl ⟨by rfl, fun u hSw => (by go_simp)⟩) hS ?_
                  refine wpAnyH_take (i := 1) (v := .int .i64 (k : Int)) rfl (by kernel_rfl) (by kernel_rfl) (by kernel_rfl) (fun _ _ _ h => h) (Or.inl ⟨by rfl, fun u hSw => (by go_simp)⟩) hS ?_
                  refine wpAnyH_take (i := 2) (v := .pointer (some (ad.add (k * 3)))) rfl (by kernel_rfl) (by kernel_rfl) (by kernel_rfl) (fun _ _ _ h => h) (Or.inl ⟨by rfl, fun u hSw => (by go_simp)⟩) hS ?_
                  refine wpAnyH_take (i := 3) (v := .agg #[.int .u64 (p : Int), .int .u64 (q : Int), .int .u64 (x : Int)]) rfl (by kernel_rfl) (by kernel_rfl) (by kernel_rfl) (fun _ _ _ h => h) (Or.inl ⟨by rfl, fun u hSw => (by obtain ⟨ad2, e, _, c0, c1, c2⟩ := hSw k p q x HM.out; obtain rfl := Option.some.inj e; go_simp)⟩) hS ?_
                  refine wpAnyH_take (i := 4) (v := .slice (some ad) n c) rfl (by kernel_rfl) (by kernel_rfl) (by kernel_rfl) (fun _ _ _ h => h) (Or.inl ⟨by rfl, fun u hSw => (by go_simp)⟩) hS ?_
                  refine wpAnyH_take (i := 5) (v := .int .i64 (m2 : Int)) rfl (by kernel_rfl) (by kernel_rfl) (by kernel_rfl) (fun _ _ _ h => h) (Or.inl ⟨by rfl, fun u hSw => (by go_simp)⟩) hS ?_
                  refine wpAnyH_take (i := 6) (v := .pointer (some (ad.add (m2 * 3)))) rfl (by kernel_rfl) (by kernel_rfl) (by kernel_rfl) (fun _ _ _ h => h) (Or.inl ⟨by rfl, fun u hSw => (by go_simp)⟩) hS ?_
                  refine wpAnyH_take (i := 7) (v := .agg #[.int .u64 (pn : Int), .int .u64 (qn : Int), .int .u64 (xn : Int)]) rfl (by kernel_rfl) (by kernel_rfl) (by kernel_rfl) (fun _ _ _ h => h) (Or.inl ⟨by rfl, fun u hSw => (by obtain ⟨ad2, e, _, c0, c1, c2⟩ := hSw m2 pn qn xn HMn.out; obtain rfl := Option.some.inj e; go_simp)⟩) hS ?_
                  refine wpAnyH_ready (rs := [8]) (by kernel_rfl) (by simp) ?_
                  refine AllReadyH.cons rfl (fun K hK => ?_) AllReadyH.nil
                  go_simp
                  refine (HV2.out _).mono ?_
                  rintro e w18 ⟨rfl, h1⟩
                  replace FR := FR.below h1 (by have := GB.size; omega)
                  replace GB := GB.trans (h1.mono GB.size)
                  clear h1
                  refine hK.out _ _ FR (fun hS => ?_)
                  clear hK K
                  refine wpAnyH_take (i := 9) (v := .bool true) rfl (by kernel_rfl) (by kernel_rfl) (by kernel_rfl) (fun _ _ _ h => h) (Or.inl ⟨by rfl, fun u hSw => (by go_simp)⟩) hS ?_
                  refine wpAnyH_done (by kernel_rfl) ?_ _
                  clear hS
                  clear FR
                  go_wp2
                  go_roundw
                  case rel => exact ⟨k + 1, k, k, by omega, hlt, hlt, rfl, rfl, by go_num, HU, HD, GB⟩
                  case measure => simp [intOf]; omega
                · have g2' := g2
                  rw [t0.1, t0.2, t2.1, t2.2] at g2'
                  clear t0 t1 t2
                  have HU := Lib.hid (HU0.out.yes hpos g1)
                  have HD := Lib.hid (HD0.out.no g2)
                  have q1 : decide (0 < r1) = true := by rw [← hr1, cmpI_pos]; exact decide_eq_true g1'
                  have q2 : decide (r2 < 0) = false := by rw [← hr2, cmpI_minus]; exact decide_eq_false g2'
                  clear g1 g2 g1' g2' hr1 hr2 hpos HU0 HD0
                  go_upto_region 16 with fail
                  replace FR : Frow (World.drew _) _ _ _ := FR
                  replace GB := GB.drew
                  refine wp_region_held_drew (S := fun W => Frow W w.heap.size (some ad) l) (by kernel_rfl) FR (fun hS => ?_)
                  generalize World.drew _ = V at FR GB hS ⊢
                  refine wpAnyH_take (i := 0) (v := .slice (some ad) n c) rfl (by kernel_rfl) (by kernel_rfl) (by kernel_rfl) (fun _ _ _ h => h) (Or.inl ⟨by rfl, fun u hSw => (by go_simp)⟩) hS ?_
                  refine wpAnyH_take (i := 1) (v := .int .i64 (k : Int)) rfl (by kernel_rfl) (by kernel_rfl) (by kernel_rfl) (fun _ _ _ h => h) (Or.inl ⟨by rfl, fun u hSw => (by go_simp)⟩) hS ?_
                  refine wpAnyH_take (i := 2) (v := .pointer (some (ad.add (k * 3)))) rfl (by kernel_rfl) (by kernel_rfl) (by kernel_rfl) (fun _ _ _ h => h) (Or.inl ⟨by rfl, fun u hSw => (by go_simp)⟩) hS ?_
                  refine wpAnyH_take (i := 3) (v := .agg #[.int .u64 (p : Int), .int .u64 (q : Int), .int .u64 (x : Int)]) rfl (by kernel_rfl) (by kernel_rfl) (by kernel_rfl) (fun _ _ _ h => h) (Or.inl ⟨by rfl, fun u hSw => (by obtain ⟨ad2, e, _, c0, c1, c2⟩ := hSw k p q x HM.out; obtain rfl := Option.some.inj e; go_simp)⟩) hS ?_
                  refine wpAnyH_take (i := 4) (v := .slice (some ad) n c) rfl (by kernel_rfl) (by kernel_rfl) (by kernel_rfl) (fun _ _ _ h => h) (Or.inl ⟨by rfl, fun u hSw => (by go_simp)⟩) hS ?_
                  refine wpAnyH_take (i := 5) (v := .int .i64 (m1 : Int)) rfl (by kernel_rfl) (by kernel_rfl) (by kernel_rfl) (fun _ _ _ h => h) (Or.inl ⟨by rfl, fun u hSw => (by go_simp)⟩) hS ?_
                  refine wpAnyH_take (i := 6) (v := .pointer (some (ad.add (m1 * 3)))) rfl (by kernel_rfl) (by kernel_rfl) (by kernel_rfl) (fun _ _ _ h => h) (Or.inl ⟨by rfl, fun u hSw => (by go_simp)⟩) hS ?_
                  refine wpAnyH_take (i := 7) (v := .agg #[.int .u64 (pm : Int), .int .u64 (qm : Int), .int .u64 (xm : Int)]) rfl (by kernel_rfl) (by kernel_rfl) (by kernel_rfl) (fun _ _ _ h => h) (Or.inl ⟨by rfl, fun u hSw => (by obtain ⟨ad2, e, _, c0, c1, c2⟩ := hSw m1 pm qm xm HMm.out; obtain rfl := Option.some.inj e; go_simp)⟩) hS ?_
                  refine wpAnyH_ready (rs := [8]) (by kernel_rfl) (by simp) ?_
                  refine AllReadyH.cons rfl (fun K hK => ?_) AllReadyH.nil
                  go_simp
                  refine (HV1.out _).mono ?_
                  rintro e w16 ⟨rfl, h1⟩
                  replace FR := FR.below h1 (by have := GB.size; omega)
                  replace GB := GB.trans (h1.mono GB.size)
                  clear h1
                  refine hK.out _ _ FR (fun hS => ?_)
                  clear hK K
                  refine wpAnyH_take (i := 9) (v := .bool true) rfl (by kernel_rfl) (by kernel_rfl) (by kernel_rfl) (fun _ _ _ h => h) (Or.inl ⟨by rfl, fun u hSw => (by go_simp)⟩) hS ?_
                  refine wpAnyH_done (by kernel_rfl) ?_ _
                  clear hS
                  go_upto_region 18 with fail
                  replace FR : Frow (World.drew _) _ _ _ := FR
                  replace GB := GB.drew
                  refine wp_region_held_drew (S := fun W => Frow W w.heap.size (some ad) l) (by kernel_rfl) FR (fun hS => ?_)
                  generalize World.drew _ = V at FR GB hS ⊢
                  refine wpAnyH_take (i := 0) (v := .slice (some ad) n c) rfl (by kernel_rfl) (by kernel_rfl) (by kernel_rfl) (fun _ _ _ h => h) (Or.inl ⟨by rfl, fun u hSw => (by go_simp)⟩) hS ?_
                  refine wpAnyH_take (i := 1) (v := .int .i64 (k : Int)) rfl (by kernel_rfl) (by kernel_rfl) (by kernel_rfl) (fun _ _ _ h => h) (Or.inl ⟨by rfl, fun u hSw => (by go_simp)⟩) hS ?_
                  refine wpAnyH_take (i := 2) (v := .pointer (some (ad.add (k * 3)))) rfl (by kernel_rfl) (by kernel_rfl) (by kernel_rfl) (fun _ _ _ h => h) (Or.inl ⟨by rfl, fun u hSw => (by go_simp)⟩) hS ?_
                  refine wpAnyH_take (i := 3) (v := .agg #[.int .u64 (p : Int), .int .u64 (q : Int), .int .u64 (x : Int)]) rfl (by kernel_rfl) (by kernel_rfl) (by kernel_rfl) (fun _ _ _ h => h) (Or.inl ⟨by rfl, fun u hSw => (by obtain ⟨ad2, e, _, c0, c1, c2⟩ := hSw k p q x HM.out; obtain rfl := Option.some.inj e; go_simp)⟩) hS ?_
                  refine wpAnyH_take (i := 4) (v := .slice (some ad) n c) rfl (by kernel_rfl) (by kernel_rfl) (by kernel_rfl) (fun _ _ _ h => h) (Or.inl ⟨by rfl, fun u hSw => (by go_simp)⟩) hS ?_
                  refine wpAnyH_take (i := 5) (v := .int .i64 (m2 : Int)) rfl (by kernel_rfl) (by kernel_rfl) (by kernel_rfl) (fun _ _ _ h => h) (Or.inl ⟨by rfl, fun u hSw => (by go_simp)⟩) hS ?_
                  refine wpAnyH_take (i := 6) (v := .pointer (some (ad.add (m2 * 3)))) rfl (by kernel_rfl) (by kernel_rfl) (by kernel_rfl) (fun _ _ _ h => h) (Or.inl ⟨by rfl, fun u hSw => (by go_simp)⟩) hS ?_
                  refine wpAnyH_take (i := 7) (v := .agg #[.int .u64 (pn : Int), .int .u64 (qn : Int), .int .u64 (xn : Int)]) rfl (by kernel_rfl) (by kernel_rfl) (by kernel_rfl) (fun _ _ _ h => h) (Or.inl ⟨by rfl, fun u hSw => (by obtain ⟨ad2, e, _, c0, c1, c2⟩ := hSw m2 pn qn xn HMn.out; obtain rfl := Option.some.inj e; go_simp)⟩) hS ?_
                  refine wpAnyH_ready (rs := [8]) (by kernel_rfl) (by simp) ?_
                  refine AllReadyH.cons rfl (fun K hK => ?_) AllReadyH.nil
                  go_simp
                  refine (HV2.out _).mono ?_
                  rintro e w18 ⟨rfl, h1⟩
                  replace FR := FR.below h1 (by have := GB.size; omega)
                  replace GB := GB.trans (h1.mono GB.size)
                  clear h1
                  refine hK.out _ _ FR (fun hS => ?_)
                  clear hK K
                  refine wpAnyH_take (i := 9) (v := .bool false) rfl (by kernel_rfl) (by kernel_rfl) (by kernel_rfl) (fun _ _ _ h => h) (Or.inl ⟨by rfl, fun u hSw => (by go_simp)⟩) hS ?_
                  refine wpAnyH_done (by kernel_rfl) ?_ _
                  clear hS
                  clear FR
                  go_wp2
                  go_roundw
                  case rel => exact ⟨k + 1, k, m2, by omega, hlt, hm2, rfl, rfl, by go_num, HU, HD, GB⟩
                  case measure => simp [intOf]; omega
              · have g1' := g1
                rw [t0.1, t0.2, t1.1, t1.2] at g1'
                by_cases g2 : aF l k * bF l m2 < aF l m2 * bF l k
                · have g2' := g2
                  rw [t0.1, t0.2, t2.1, t2.2] at g2'
                  clear t0 t1 t2
                  have HU := Lib.hid (HU0.out.no g1)
                  have HD := Lib.hid (HD0.out.yes hpos g2)
                  have q1 : decide (0 < r1) = false := by rw [← hr1, cmpI_pos]; exact decide_eq_false g1'
                  have q2 : decide (r2 < 0) = true := by rw [← hr2, cmpI_minus]; exact decide_eq_true g2'
                  clear g1 g2 g1' g2' hr1 hr2 hpos HU0 HD0
                  go_upto_region 16 with fail
                  replace FR : Frow (World.drew _) _ _ _ := FR
                  replace GB := GB.drew
                  refine wp_region_held_drew (S := fun W => Frow W w.heap.size (some ad) l) (by kernel_rfl) FR (fun hS => ?_)
                  generalize World.drew _ = V at FR GB hS ⊢
                  refine wpAnyH_take (i := 0) (v := .slice (some ad) n c) rfl (by kernel_rfl) (by kernel_rfl) (by kernel_rfl) (fun _ _ _ h => h) (Or.inl ⟨by rfl, fun u hSw => (by go_simp)⟩) hS ?_
                  refine wpAnyH_take (i := 1) (v := .int .i64 (k : Int)) rfl (by kernel_rfl) (by kernel_rfl) (by kernel_rfl) (fun _ _ _ h => h) (Or.inl ⟨by rfl, fun u hSw => (by go_simp)⟩) hS ?_
                  refine wpAnyH_take (i := 2) (v := .pointer (some (ad.add (k * 3)))) rfl (by kernel_rfl) (by kernel_rfl) (by kernel_rfl) (fun _ _ _ h => h) (Or.inl ⟨by rfl, fun u hSw => (by go_simp)⟩) hS ?_
                  refine wpAnyH_take (i := 3) (v := .agg #[.int .u64 (p : Int), .int .u64 (q : Int), .int .u64 (x : Int)]) rfl (by kernel_rfl) (by kernel_rfl) (by kernel_rfl) (fun _ _ _ h => h) (Or.inl ⟨by rfl, fun u hSw => (by obtain ⟨ad2, e, _, c0, c1, c2⟩ := hSw k p q x HM.out; obtain rfl := Option.some.inj e; go_simp)⟩) hS ?_
                  refine wpAnyH_take (i := 4) (v := .slice (some ad) n c) rfl (by kernel_rfl) (by kernel_rfl) (by kernel_rfl) (fun _ _ _ h => h) (Or.inl ⟨by rfl, fun u hSw => (by go_simp)⟩) hS ?_
                  refine wpAnyH_take (i := 5) (v := .int .i64 (m1 : Int)) rfl (by kernel_rfl) (by kernel_rfl) (by kernel_rfl) (fun _ _ _ h => h) (Or.inl ⟨by rfl, fun u hSw => (by go_simp)⟩) hS ?_
                  refine wpAnyH_take (i := 6) (v := .pointer (some (ad.add (m1 * 3)))) rfl (by kernel_rfl) (by kernel_rfl) (by kernel_rfl) (fun _ _ _ h => h) (Or.inl ⟨by rfl, fun u hSw => (by go_simp)⟩) hS ?_
                  refine wpAnyH_take (i := 7) (v := .agg #[.int .u64 (pm : Int), .int .u64 (qm : Int), .int .u64 (xm : Int)]) rfl (by kernel_rfl) (by kernel_rfl) (by kernel_rfl) (fun _ _ _ h => h) (Or.inl ⟨by rfl, fun u hSw => (by obtain ⟨ad2, e, _, c0, c1, c2⟩ := hSw m1 pm qm xm HMm.out; obtain rfl := Option.some.inj e; go_simp)⟩) hS ?_
                  refine wpAnyH_ready (rs := [8]) (by kernel_rfl) (by simp) ?_
                  refine AllReadyH.cons rfl (fun K hK => ?_) AllReadyH.nil
                  go_simp
                  refine (HV1.out _).mono ?_
                  rintro e w16 ⟨rfl, h1⟩
                  replace FR := FR.below h1 (by have := GB.size; omega)
                  replace GB := GB.trans (h1.mono GB.size)
                  clear h1
                  refine hK.out _ _ FR (fun hS => ?_)
                  clear hK K
                  refine wpAnyH_take (i := 9) (v := .bool false) rfl (by kernel_rfl) (by kernel_rfl) (by kernel_rfl) (fun _ _ _ h => h) (Or.inl ⟨by rfl, fun u hSw => (by go_simp)⟩) hS ?_
                  refine wpAnyH_done (by kernel_rfl) ?_ _
                  clear hS
                  go_upto_region 18 with fail
                  replace FR : Frow (World.drew _) _ _ _ := FR
                  replace GB := GB.drew
                  refine wp_region_held_drew (S := fun W => Frow W w.heap.size (some ad) l) (by kernel_rfl) FR (fun hS => ?_)
                  generalize World.drew _ = V at FR GB hS ⊢
                  refine wpAnyH_take (i := 0) (v := .slice (some ad) n c) rfl (by kernel_rfl) (by kernel_rfl) (by kernel_rfl) (fun _ _ _ h => h) (Or.inl ⟨by rfl, fun u hSw => (by go_simp)⟩) hS ?_
                  refine wpAnyH_take (i := 1) (v := .int .i64 (k : Int)) rfl (by kernel_rfl) (by kernel_rfl) (by kernel_rfl) (fun _ _ _ h => h) (Or.inl ⟨by rfl, fun u hSw => (by go_simp)⟩) hS ?_
                  refine wpAnyH_take (i := 2) (v := .pointer (some (ad.add (k * 3)))) rfl (by kernel_rfl) (by kernel_rfl) (by kernel_rfl) (fun _ _ _ h => h) (Or.inl ⟨by rfl, fun u hSw => (by go_simp)⟩) hS ?_
                  refine wpAnyH_take (i := 3) (v := .agg #[.int .u64 (p : Int), .int .u64 (q : Int), .int .u64 (x : Int)]) rfl (by kernel_rfl) (by kernel_rfl) (by kernel_rfl) (fun _ _ _ h => h) (Or.inl ⟨by rfl, fun u hSw => (by obtain ⟨ad2, e, _, c0, c1, c2⟩ := hSw k p q x HM.out; obtain rfl := Option.some.inj e; go_simp)⟩) hS ?_
                  refine wpAnyH_take (i := 4) (v := .slice (some ad) n c) rfl (by kernel_rfl) (by kernel_rfl) (by kernel_rfl) (fun _ _ _ h => h) (Or.inl ⟨by rfl, fun u hSw => (by go_simp)⟩) hS ?_
                  refine wpAnyH_take (i := 5) (v := .int .i64 (m2 : Int)) rfl (by kernel_rfl) (by kernel_rfl) (by kernel_rfl) (fun _ _ _ h => h) (Or.inl ⟨by rfl, fun u hSw => (by go_simp)⟩) hS ?_
                  refine wpAnyH_take (i := 6) (v := .pointer (some (ad.add (m2 * 3)))) rfl (by kernel_rfl) (by kernel_rfl) (by kernel_rfl) (fun _ _ _ h => h) (Or.inl ⟨by rfl, fun u hSw => (by go_simp)⟩) hS ?_
                  refine wpAnyH_take (i := 7) (v := .agg #[.int .u64 (pn : Int), .int .u64 (qn : Int), .int .u64 (xn : Int)]) rfl (by kernel_rfl) (by kernel_rfl) (by kernel_rfl) (fun _ _ _ h => h) (Or.inl ⟨by rfl, fun u hSw => (by obtain ⟨ad2, e, _, c0, c1, c2⟩ := hSw m2 pn qn xn HMn.out; obtain rfl := Option.some.inj e; go_simp)⟩) hS ?_
                  refine wpAnyH_ready (rs := [8]) (by kernel_rfl) (by simp) ?_
                  refine AllReadyH.cons rfl (fun K hK => ?_) AllReadyH.nil
                  go_simp
                  refine (HV2.out _).mono ?_
                  rintro e w18 ⟨rfl, h1⟩
                  replace FR := FR.below h1 (by have := GB.size; omega)
                  replace GB := GB.trans (h1.mono GB.size)
                  clear h1
                  refine hK.out _ _ FR (fun hS => ?_)
                  clear hK K
                  refine wpAnyH_take (i := 9) (v := .bool true) rfl (by kernel_rfl) (by kernel_rfl) (by kernel_rfl) (fun _ _ _ h => h) (Or.inl ⟨by rfl, fun u hSw => (by go_simp)⟩) hS ?_
                  refine wpAnyH_done (by kernel_rfl) ?_ _
                  clear hS
                  clear FR
                  go_wp2
                  go_roundw
                  case rel => exact ⟨k + 1, m1, k, by omega, hm1, hlt, rfl, rfl, by go_num, HU, HD, GB⟩
                  case measure => simp [intOf]; omega
                · have g2' := g2
                  rw [t0.1, t0.2, t2.1, t2.2] at g2'
                  clear t0 t1 t2
                  have HU := Lib.hid (HU0.out.no g1)
                  have HD := Lib.hid (HD0.out.no g2)
                  have q1 : decide (0 < r1) = false := by rw [← hr1, cmpI_pos]; exact decide_eq_false g1'
                  have q2 : decide (r2 < 0) = false := by rw [← hr2, cmpI_minus]; exact decide_eq_false g2'
                  clear g1 g2 g1' g2' hr1 hr2 hpos HU0 HD0
                  go_upto_region 16 with fail
                  replace FR : Frow (World.drew _) _ _ _ := FR
                  replace GB := GB.drew
                  refine wp_region_held_drew (S := fun W => Frow W w.heap.size (some ad) l) (by kernel_rfl) FR (fun hS => ?_)
                  generalize World.drew _ = V at FR GB hS ⊢
                  refine wpAnyH_take (i := 0) (v := .slice (some ad) n c) rfl (by kernel_rfl) (by kernel_rfl) (by kernel_rfl) (fun _ _ _ h => h) (Or.inl ⟨by rfl, fun u hSw => (by go_simp)⟩) hS ?_
                  refine wpAnyH_take (i := 1) (v := .int .i64 (k : Int)) rfl (by kernel_rfl) (by kernel_rfl) (by kernel_rfl) (fun _ _ _ h => h) (Or.inl ⟨by rfl, fun u hSw => (by go_simp)⟩) hS ?_
                  refine wpAnyH_take (i := 2) (v := .pointer (some (ad.add (k * 3)))) rfl (by kernel_rfl) (by kernel_rfl) (by kernel_rfl) (fun _ _ _ h => h) (Or.inl ⟨by rfl, fun u hSw => (by go_simp)⟩) hS ?_
                  refine wpAnyH_take (i := 3) (v := .agg #[.int .u64 (p : Int), .int .u64 (q : Int), .int .u64 (x : Int)]) rfl (by kernel_rfl) (by kernel_rfl) (by kernel_rfl) (fun _ _ _ h => h) (Or.inl ⟨by rfl, fun u hSw => (by obtain ⟨ad2, e, _, c0, c1, c2⟩ := hSw k p q x HM.out; obtain rfl := Option.some.inj e; go_simp)⟩) hS ?_
                  refine wpAnyH_take (i := 4) (v := .slice (some ad) n c) rfl (by kernel_rfl) (by kernel_rfl) (by kernel_rfl) (fun _ _ _ h => h) (Or.inl ⟨by rfl, fun u hSw => (by go_simp)⟩) hS ?_
                  refine wpAnyH_take (i := 5) (v := .int .i64 (m1 : Int)) rfl (by kernel_rfl) (by kernel_rfl) (by kernel_rfl) (fun _ _ _ h => h) (Or.inl ⟨by rfl, fun u hSw => (by go_simp)⟩) hS ?_
                  refine wpAnyH_take (i := 6) (v := .pointer (some (ad.add (m1 * 3)))) rfl (by kernel_rfl) (by kernel_rfl) (by kernel_rfl) (fun _ _ _ h => h) (Or.inl ⟨by rfl, fun u hSw => (by go_simp)⟩) hS ?_
                  refine wpAnyH_take (i := 7) (v := .agg #[.int .u64 (pm : Int), .int .u64 (qm : Int), .int .u64 (xm : Int)]) rfl (by kernel_rfl) (by kernel_rfl) (by kernel_rfl) (fun _ _ _ h => h) (Or.inl ⟨by rfl, fun u hSw => (by obtain ⟨ad2, e, _, c0, c1, c2⟩ := hSw m1 pm qm xm HMm.out; obtain rfl := Option.some.inj e; go_simp)⟩) hS ?_
                  refine wpAnyH_ready (rs := [8]) (by kernel_rfl) (by simp) ?_
                  refine AllReadyH.cons rfl (fun K hK => ?_) AllReadyH.nil
                  go_simp
                  refine (HV1.out _).mono ?_
                  rintro e w16 ⟨rfl, h1⟩
                  replace FR := FR.below h1 (by have := GB.size; omega)
                  replace GB := GB.trans (h1.mono GB.size)
                  clear h1
                  refine hK.out _ _ FR (fun hS => ?_)
                  clear hK K
                  refine wpAnyH_take (i := 9) (v := .bool false) rfl (by kernel_rfl) (by kernel_rfl) (by kernel_rfl) (fun _ _ _ h => h) (Or.inl ⟨by rfl, fun u hSw => (by go_simp)⟩) hS ?_
                  refine wpAnyH_done (by kernel_rfl) ?_ _
                  clear hS
                  go_upto_region 18 with fail
                  replace FR : Frow (World.drew _) _ _ _ := FR
                  replace GB := GB.drew
                  refine wp_region_held_drew (S := fun W => Frow W w.heap.size (some ad) l) (by kernel_rfl) FR (fun hS => ?_)
                  generalize World.drew _ = V at FR GB hS ⊢
                  refine wpAnyH_take (i := 0) (v := .slice (some ad) n c) rfl (by kernel_rfl) (by kernel_rfl) (by kernel_rfl) (fun _ _ _ h => h) (Or.inl ⟨by rfl, fun u hSw => (by go_simp)⟩) hS ?_
                  refine wpAnyH_take (i := 1) (v := .int .i64 (k : Int)) rfl (by kernel_rfl) (by kernel_rfl) (by kernel_rfl) (fun _ _ _ h => h) (Or.inl ⟨by rfl, fun u hSw => (by go_simp)⟩) hS ?_
                  refine wpAnyH_take (i := 2) (v := .pointer (some (ad.add (k * 3)))) rfl (by kernel_rfl) (by kernel_rfl) (by kernel_rfl) (fun _ _ _ h => h) (Or.inl ⟨by rfl, fun u hSw => (by go_simp)⟩) hS ?_
                  refine wpAnyH_take (i := 3) (v := .agg #[.int .u64 (p : Int), .int .u64 (q : Int), .int .u64 (x : Int)]) rfl (by kernel_rfl) (by kernel_rfl) (by kernel_rfl) (fun _ _ _ h => h) (Or.inl ⟨by rfl, fun u hSw => (by obtain ⟨ad2, e, _, c0, c1, c2⟩ := hSw k p q x HM.out; obtain rfl := Option.some.inj e; go_simp)⟩) hS ?_
                  refine wpAnyH_take (i := 4) (v := .slice (some ad) n c) rfl (by kernel_rfl) (by kernel_rfl) (by kernel_rfl) (fun _ _ _ h => h) (Or.inl ⟨by rfl, fun u hSw => (by go_simp)⟩) hS ?_
                  refine wpAnyH_take (i := 5) (v := .int .i64 (m2 : Int)) rfl (by kernel_rfl) (by kernel_rfl) (by kernel_rfl) (fun _ _ _ h => h) (Or.inl ⟨by rfl, fun u hSw => (by go_simp)⟩) hS ?_
                  refine wpAnyH_take (i := 6) (v := .pointer (some (ad.add (m2 * 3)))) rfl (by kernel_rfl) (by kernel_rfl) (by kernel_rfl) (fun _ _ _ h => h) (Or.inl ⟨by rfl, fun u hSw => (by go_simp)⟩) hS ?_
                  refine wpAnyH_take (i := 7) (v := .agg #[.int .u64 (pn : Int), .int .u64 (qn : Int), .int .u64 (xn : Int)]) rfl (by kernel_rfl) (by kernel_rfl) (by kernel_rfl) (fun _ _ _ h => h) (Or.inl ⟨by rfl, fun u hSw => (by obtain ⟨ad2, e, _, c0, c1, c2⟩ := hSw m2 pn qn xn HMn.out; obtain rfl := Option.some.inj e; go_simp)⟩) hS ?_
                  refine wpAnyH_ready (rs := [8]) (by kernel_rfl) (by simp) ?_
                  refine AllReadyH.cons rfl (fun K hK => ?_) AllReadyH.nil
                  go_simp
                  refine (HV2.out _).mono ?_
                  rintro e w18 ⟨rfl, h1⟩
                  replace FR := FR.below h1 (by have := GB.size; omega)
                  replace GB := GB.trans (h1.mono GB.size)
                  clear h1
                  refine hK.out _ _ FR (fun hS => ?_)
                  clear hK K
                  refine wpAnyH_take (i := 9) (v := .bool false) rfl (by kernel_rfl) (by kernel_rfl) (by kernel_rfl) (fun _ _ _ h => h) (Or.inl ⟨by rfl, fun u hSw => (by go_simp)⟩) hS ?_
                  refine wpAnyH_done (by kernel_rfl) ?_ _
                  clear hS
                  clear FR
                  go_wp2
                  go_roundw
                  case rel => exact ⟨k + 1, m1, m2, by omega, hm1, hm2, rfl, rfl, by go_num, HU, HD, GB⟩
                  case measure => simp [intOf]; omega
            · obtain rfl : n = k := by omega
              obtain rfl : m1 = k1 := HU0.out.end_ HN.out HT1.out
              obtain rfl : m2 = k2 := HD0.out.end_ HN.out HT2.out
              clear HU0 HD0
              go_wp2
              go_ret
              exact ⟨rfl, hB⟩
    · have H1 : Hid (Found Top l 0 false) := Lib.hid (.inr ⟨rfl, rfl, by
        rcases Nat.eq_zero_or_pos n with h | h
        · exact .inl (by omega)
        · refine .inr ?_
          cases ha : allB l with
          | false => rfl
          | true => exact absurd ⟨h, ha⟩ hgood⟩)
      have H2 : Hid (Found Bot l 0 false) := Lib.hid (.inr ⟨rfl, rfl, by
        rcases Nat.eq_zero_or_pos n with h | h
        · exact .inl (by omega)
        · refine .inr ?_
          cases ha : allB l with
          | false => rfl
          | true => exact absurd ⟨h, ha⟩ hgood⟩)
      obtain ⟨k1, q1⟩ : ∃ k1, k1 = 0 := ⟨0, rfl⟩
      obtain ⟨k2, q2⟩ : ∃ k2, k2 = 0 := ⟨0, rfl⟩
      rw [← q1] at H1
      rw [← q2] at H2
      have e1 : ((k1 : Int) == 0) = true := by simp; omega
      have e2 : ((k2 : Int) == 0) = true := by simp; omega
      clear q1 q2
      by_cases h0 : n = 0
      · have HBad : Hid ((false && allB l) = false) := Lib.hid rfl
        have h0' : ¬ 0 < n := by omega
        clear hl hs hr hgood h0
        have e0 : decide ((0 : Int) < (n : Int)) = false := by simp; omega
        have e0n : decide (0 < n) = false := by simp; omega
        go_enter Try.func5, Try.ntmps5
        go_wp2_with fail
        refine (HK.out _).mono ?_
        rintro e w1 ⟨rfl, B1⟩
        have zw1 := B1.size
        have HRw := Lib.hid ((HR.out.below B1).alloc zw1 (.cells #[] 26))
        have HBn := Lib.hid B1
        clear B1
        go_wp2_with (
          at_builtin
          refine wpList_append_any _ rfl (.tmp 19) (.tmp 20) 49 rfl w.heap.size 26 i0 (.agg #[.int .u64 0, .int .u64 0, .int .u64 0]) 3 24 Try.underlying49 hi0 hz0 hz1 hz2 rfl (by decide) (.slice (some ⟨w1.heap.size, 0, none⟩) 0 0) 0 [] rfl (World.ownsRow_made _ _ _ (by omega) (by simp [maxLen]) (by simp)) w.heap.size A n c (fvs l) rfl HRw.out (fvs_ones l) (by simp only [maxLen]; omega) (by omega) (by simp; omega) ?_
          intro v2 uw1 hown2 hg2 _
          rw [List.nil_append, Nat.zero_add] at hown2
          obtain ⟨A2, c2, rfl, hf2⟩ := own_reads hown2
          have HF2 := Lib.hid hf2
          have HB2 := Lib.hid ((HBn.out.alloc zw1 (.cells #[] 26)).grown hg2 (by simp; omega) (fun g hg => by simp [Value.ownBlock] at hg; omega))
          clear hown2 hg2 hf2 HRw HBn)
        refine (most_any A2 n c2 l uw1 HL.out H100.out HS.out HF2.out k1 false H1.out).mono ?_
        rintro e w1' ⟨rfl, h2⟩
        have B1' := HB2.out.trans (h2.mono HB2.out.size)
        clear h2 HF2 HB2 zw1
        have zw1' := B1'.size
        have HRw := Lib.hid ((HR.out.below B1').alloc zw1' (.cells #[] 26))
        have HBn := Lib.hid B1'
        clear B1'
        go_wp2_with (
          at_builtin
          refine wpList_append_any _ rfl (.tmp 26) (.tmp 27) 49 rfl w.heap.size 26 i0 (.agg #[.int .u64 0, .int .u64 0, .int .u64 0]) 3 24 Try.underlying49 hi0 hz0 hz1 hz2 rfl (by decide) (.slice (some ⟨w1'.heap.size, 0, none⟩) 0 0) 0 [] rfl (World.ownsRow_made _ _ _ (by omega) (by simp [maxLen]) (by simp)) w.heap.size A n c (fvs l) rfl HRw.out (fvs_ones l) (by simp only [maxLen]; omega) (by omega) (by simp; omega) ?_
          intro v2 uw1' hown2 hg2 _
          rw [List.nil_append, Nat.zero_add] at hown2
          obtain ⟨A2, c2, rfl, hf2⟩ := own_reads hown2
          have HF2 := Lib.hid hf2
          have HB2 := Lib.hid ((HBn.out.alloc zw1' (.cells #[] 26)).grown hg2 (by simp; omega) (fun g hg => by simp [Value.ownBlock] at hg; omega))
          clear hown2 hg2 hf2 HRw HBn)
        refine (least_any A2 n c2 l uw1' HL.out H100.out HS.out HF2.out k2 false H2.out).mono ?_
        rintro e w1'' ⟨rfl, h2⟩
        have B1'' := HB2.out.trans (h2.mono HB2.out.size)
        clear h2 HF2 HB2 zw1'
        clear HK H1 H2 hi0 hz0 hz1 hz2
        have B1 := B1''
        clear B1''
        go_wp2_with fail
        go_loopw [9, 37] (fun s i wr => ∃ (k : Nat) (b : Bool), k ≤ n ∧ s = .bool b ∧ Hid (b = (false && allB (l.take k))) ∧ i = .int .i64 (k : Int) ∧ Below w.heap.size w wr) (fun _ i _ => n - (intOf i).toNat)
        case atStart => exact ⟨0, false, by omega, rfl, Lib.hid (by rw [List.take_zero]; rfl), rfl, B1⟩
        case round =>
          obtain ⟨k, b, hk, rfl, HBk, rfl, hB⟩ := hrel
          by_cases hlt : k < n
          · exact absurd hlt (by omega)
          · obtain rfl : n = k := by omega
            obtain rfl : b = false := by
              rw [HBk.out, show l.take n = l by rw [← HL.out]; exact List.take_length]
              exact HBad.out
            clear HBk
            go_wp2_with fail
            go_loopw [7, 8, 12] (fun a b i wr => a = .int .i64 0 ∧ b = .int .i64 0 ∧ i = .int .i64 0 ∧ Below w.heap.size w wr) (fun _ _ i _ => n - (intOf i).toNat)
            case atStart => exact ⟨rfl, rfl, rfl, hB⟩
            case round =>
              obtain ⟨rfl, rfl, rfl, hB2⟩ := hrel
              go_wp2
              go_ret
              exact ⟨rfl, hB2⟩
      · have HBad : Hid ((true && allB l) = false) := Lib.hid (by
          cases ha : allB l with
          | false => rfl
          | true => exact absurd ⟨by omega, ha⟩ hgood)
        have h0' : 0 < n := by omega
        clear hl hs hr hgood h0
        have e0 : decide ((0 : Int) < (n : Int)) = true := by simp; omega
        have e0n : decide (0 < n) = true := by simp; omega
        go_enter Try.func5, Try.ntmps5
        go_wp2_with fail
        refine (HK.out _).mono ?_
        rintro e w1 ⟨rfl, B1⟩
        have zw1 := B1.size
        have HRw := Lib.hid ((HR.out.below B1).alloc zw1 (.cells #[] 26))
        have HBn := Lib.hid B1
        clear B1
        go_wp2_with (
          at_builtin
          refine wpList_append_any _ rfl (.tmp 19) (.tmp 20) 49 rfl w.heap.size 26 i0 (.agg #[.int .u64 0, .int .u64 0, .int .u64 0]) 3 24 Try.underlying49 hi0 hz0 hz1 hz2 rfl (by decide) (.slice (some ⟨w1.heap.size, 0, none⟩) 0 0) 0 [] rfl (World.ownsRow_made _ _ _ (by omega) (by simp [maxLen]) (by simp)) w.heap.size A n c (fvs l) rfl HRw.out (fvs_ones l) (by simp only [maxLen]; omega) (by omega) (by simp; omega) ?_
          intro v2 uw1 hown2 hg2 _
          rw [List.nil_append, Nat.zero_add] at hown2
          obtain ⟨A2, c2, rfl, hf2⟩ := own_reads hown2
          have HF2 := Lib.hid hf2
          have HB2 := Lib.hid ((HBn.out.alloc zw1 (.cells #[] 26)).grown hg2 (by simp; omega) (fun g hg => by simp [Value.ownBlock] at hg; omega))
          clear hown2 hg2 hf2 HRw HBn)
        refine (most_any A2 n c2 l uw1 HL.out H100.out HS.out HF2.out k1 false H1.out).mono ?_
        rintro e w1' ⟨rfl, h2⟩
        have B1' := HB2.out.trans (h2.mono HB2.out.size)
        clear h2 HF2 HB2 zw1
        have zw1' := B1'.size
        have HRw := Lib.hid ((HR.out.below B1').alloc zw1' (.cells #[] 26))
        have HBn := Lib.hid B1'
        clear B1'
        go_wp2_with (
          at_builtin
          refine wpList_append_any _ rfl (.tmp 26) (.tmp 27) 49 rfl w.heap.size 26 i0 (.agg #[.int .u64 0, .int .u64 0, .int .u64 0]) 3 24 Try.underlying49 hi0 hz0 hz1 hz2 rfl (by decide) (.slice (some ⟨w1'.heap.size, 0, none⟩) 0 0) 0 [] rfl (World.ownsRow_made _ _ _ (by omega) (by simp [maxLen]) (by simp)) w.heap.size A n c (fvs l) rfl HRw.out (fvs_ones l) (by simp only [maxLen]; omega) (by omega) (by simp; omega) ?_
          intro v2 uw1' hown2 hg2 _
          rw [List.nil_append, Nat.zero_add] at hown2
          obtain ⟨A2, c2, rfl, hf2⟩ := own_reads hown2
          have HF2 := Lib.hid hf2
          have HB2 := Lib.hid ((HBn.out.alloc zw1' (.cells #[] 26)).grown hg2 (by simp; omega) (fun g hg => by simp [Value.ownBlock] at hg; omega))
          clear hown2 hg2 hf2 HRw HBn)
        refine (least_any A2 n c2 l uw1' HL.out H100.out HS.out HF2.out k2 false H2.out).mono ?_
        rintro e w1'' ⟨rfl, h2⟩
        have B1'' := HB2.out.trans (h2.mono HB2.out.size)
        clear h2 HF2 HB2 zw1'
        clear HK H1 H2 hi0 hz0 hz1 hz2
        have B1 := B1''
        clear B1''
        go_wp2_with fail
        go_loopw [9, 37] (fun s i wr => ∃ (k : Nat) (b : Bool), k ≤ n ∧ s = .bool b ∧ Hid (b = (true && allB (l.take k))) ∧ i = .int .i64 (k : Int) ∧ Below w.heap.size w wr) (fun _ i _ => n - (intOf i).toNat)
        case atStart => exact ⟨0, true, by omega, rfl, Lib.hid (by rw [List.take_zero]; rfl), rfl, B1⟩
        case round =>
          obtain ⟨k, b, hk, rfl, HBk, rfl, hB⟩ := hrel
          by_cases hlt : k < n
          · obtain ⟨p, q, x, hm⟩ := each_at (l := l) (k := k) (by rw [HL.out]; exact hlt)
            obtain ⟨ad, rfl, hb, d0, d1, d2⟩ := (HR.out.frow.below hB (Nat.le_refl _)) k p q x hm
            have HRt := Lib.hid (fun u => rright_any p q x u)
            have HS1 := Lib.hid (all_and hm)
            have hsz := hB.size
            clear hm
            unfold fr at HRt
            generalize rightB p x = rb at HRt HS1
            cases b with
            | true =>
              go_wp2_with fail
              refine (HRt.out _).mono ?_
              rintro e w2 ⟨rfl, h2⟩
              have B2 := (hB.alloc hsz _).trans (h2.mono (by simp; omega))
              clear h2 hB d0 d1 d2
              go_wp2
              go_roundw
              case rel => exact ⟨k + 1, rb, by omega, rfl, Lib.hid (by rw [HS1.out, ← Bool.and_assoc, ← HBk.out]; rfl), by go_num, B2⟩
              case measure => simp [intOf]; omega
            | false =>
              have B2 := hB.alloc hsz (.cells #[.int .u64 (p : Int), .int .u64 (q : Int), .int .u64 (x : Int)] 26)
              clear hB
              go_wp2
              go_roundw
              case rel => exact ⟨k + 1, false, by omega, rfl, Lib.hid (by rw [HS1.out, ← Bool.and_assoc, ← HBk.out]; rfl), by go_num, B2⟩
              case measure => simp [intOf]; omega
          · obtain rfl : n = k := by omega
            obtain rfl : b = false := by
              rw [HBk.out, show l.take n = l by rw [← HL.out]; exact List.take_length]
              exact HBad.out
            clear HBk
            go_wp2_with fail
            go_loopw [7, 8, 12] (fun a b i wr => a = .int .i64 0 ∧ b = .int .i64 0 ∧ i = .int .i64 0 ∧ Below w.heap.size w wr) (fun _ _ i _ => n - (intOf i).toNat)
            case atStart => exact ⟨rfl, rfl, rfl, hB⟩
            case round =>
              obtain ⟨rfl, rfl, rfl, hB2⟩ := hrel
              go_wp2
              go_ret
              exact ⟨rfl, hB2⟩
  · have e : (100 : Int) < (n : Int) := by omega
    clear h100 hl hs hr
    go_enter Try.func5, Try.ntmps5
    go_wp2_with fail
    refine (HK.out _).mono ?_
    rintro e w1 ⟨rfl, B1⟩
    go_wp2
    go_ret
    exact ⟨rfl, B1⟩

end Go.Proofs.Ytodhkdaipmeblaa
