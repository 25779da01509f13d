/-
  The contracts of the document's Of and Same. No statement is proved here.
-/
import Derived.Test.YtknimnopopnbhaaDc
namespace Go.Proofs.Ytknimnopopnbhaa
open Go.RowKit

/-- a row of numbers of the call's own -/
def LL (l : List Int) (w : World) (e : Ending) (w' : World) : Prop :=
  ∃ A c, e = .returned (.slice A l.length c) ∧ l.length ≤ c ∧ w'.ownsRow w.heap.size 3 1 (.slice A l.length c) l.length (vs l) ∧ Below w.heap.size w w'
theorem ofL_step {us : List Vc} {k : Nat} {x : Vc} {dom : Int} (hx : us[k]? = some x) : ofL (us.take (k + 1)) dom = ofL (us.take k) dom ++ (if x.2.1 = dom then [x.1] else []) := by
  unfold ofL
  rw [List.take_add_one, hx, List.filter_append, List.map_append]
  congr 1
  by_cases h : x.2.1 = dom
  · rw [if_pos h]; simp [h]
  · rw [if_neg h]; simp [h]
theorem ofL_le (us : List Vc) (dom : Int) : (ofL us dom).length ≤ us.length := by
  unfold ofL
  rw [List.length_map]
  exact List.length_filter_le _ _
theorem reads_int1 (w : World) (t : TypeId) (x : Int) {g : Nat} (hg : g = w.heap.size) : Reads (w.alloc (.cells #[.int .i64 x] t)) (w.alloc (.cells #[.int .i64 x] t)).heap.size 1 (some ⟨g, 0, none⟩) 1 (vs [x]) := by
  subst hg
  refine ⟨rfl, fun _ => ⟨_, rfl, by simp, fun j u hu => ?_⟩⟩
  have hb := Blk.new w t #[.int .i64 x]
  match j, hu with
  | 0, hu => simp [vs] at hu; subst hu; exact hb.cell 0
  | j + 1, hu => simp [vs] at hu

set_option maxRecDepth 100000 in
set_option maxHeartbeats 4000000 in
theorem rofG_any (A : Option Addr) (n c : Nat) (ds : List Dom) (B : Option Addr) (m d : Nat) (us : List Vc) (dom : Int) (w : World) (hG : GR w A n c ds B m d us) :
    Calls Try.prog 17 #[.agg #[.slice A n c, .slice B m d], .int .i64 dom] w (LL (ofL us dom) w) := by
  obtain ⟨i0, hi0, hz0, hz1, hz2⟩ := info_parts9 int_info
  have HL := Lib.hid hG.len.2
  have HR := Lib.hid hG.vcs
  have HN := Lib.hid hG.m9
  have HK := Lib.hid (box1 w 25 #[.slice A n c, .slice B m d])
  clear hG
  go_enter Try.func17, Try.ntmps17
  go_wp2_with fail
  go_loopw [5, 6] (fun v i wr => ∃ k q : Nat, k ≤ m ∧ i = .int .i64 (k : Int) ∧ Hid (q = (ofL (us.take k) dom).length) ∧ Hid (wr.ownsRow (w.heap.size + 1) 3 1 v q (vs (ofL (us.take k) dom))) ∧ Blk wr w.heap.size 25 #[.slice A n c, .slice B m d] ∧ Below w.heap.size w wr) (fun _ i _ => m - (intOf i).toNat)
  case atStart => exact ⟨0, 0, by omega, rfl, Lib.hid rfl, Lib.hid (World.ownsRow_nil _ _ _ _), HK.out.1, HK.out.2⟩
  case round =>
    obtain ⟨k, q, hk, rfl, Hq, HO, K, hB⟩ := hrel
    by_cases hlt : k < m
    · obtain ⟨⟨a, b, h, s⟩, hx⟩ := elem_at (l := us) (k := k) (by rw [HL.out]; exact hlt)
      obtain ⟨ad, rfl, hb, c0, c1, _, _⟩ := vc_at (HR.out.below hB) hx
      have hF := ofL_step (dom := dom) hx
      have kz : wr.cell? ⟨w.heap.size, 1, none⟩ = some (.slice (some ad) m d) := K.cell 1
      have j0 : (0 : Int) ≤ (k : Int) := by omega
      have j1 : (k : Int) < (m : Int) := by omega
      have m9 : k < 1000 := by have := HN.out; omega
      have q9 : q ≤ 1000 := by
        have h1 := ofL_le (us.take k) dom
        rw [List.length_take] at h1
        rw [Hq.out]
        omega
      clear hx
      obtain ⟨A2, c2, rfl, _, _⟩ := own_reads HO.out
      by_cases hbd : b = dom
      · have e1 : (b == dom) = true := by simp [hbd]
        rw [if_pos hbd] at hF
        have HF := Lib.hid hF
        have HS := Lib.hid (And.intro K hB)
        have hlt2 := K.lt
        clear hF hbd K hB
        go_wp2_with (
          at_builtin
          refine wpList_append_any _ rfl (.tmp 22) (.tmp 29) 39 rfl (w.heap.size + 1) 3 i0 (.int .i64 0) 1 8 Try.underlying39 hi0 hz0 hz1 hz2 rfl (by decide) (.slice A2 q c2) q (vs (ofL (us.take k) dom)) rfl (HO.out.alloc _) _ (some ⟨wr.heap.size, 0, none⟩) 1 1 (vs [a]) rfl (reads_int1 _ 3 a rfl) (vs_ones _) (by simp only [maxLen]; omega) (by omega) (by unfold World.alloc; simp <;> omega) ?_
          intro v9 w9 own9 grow9 _
          rw [← vs_append] at own9
          have B9' := HS.out.2.alloc HS.out.2.size (.cells #[.int .i64 a] 3)
          have K9 := (HS.out.1.alloc (.cells #[.int .i64 a] 3)).grown grow9 (fun e => by have := (HO.out.lt _ e.symm).1; omega)
          have HT := Lib.hid (And.intro own9 (And.intro K9 (show Below w.heap.size w w9 from B9'.grown grow9 B9'.size (fun g hg => by have := (HO.out.lt g hg).1; omega))))
          clear own9 grow9 B9' K9)
        go_wp2_with fail
        go_roundw
        case rel => exact ⟨k + 1, q + 1, by omega, by go_num, Lib.hid (by rw [HF.out, List.length_append, ← Hq.out]; rfl), Lib.hid (by rw [HF.out]; exact HT.out.1), HT.out.2.1, HT.out.2.2⟩
        case measure => simp [intOf] <;> omega
      · have e1 : (b == dom) = false := by simp [hbd]
        rw [if_neg hbd, List.append_nil] at hF
        have HF := Lib.hid hF
        clear hF hbd
        go_wp2
        go_roundw
        case rel => exact ⟨k + 1, q, by omega, by go_num, Lib.hid (by rw [HF.out]; exact Hq.out), Lib.hid (by rw [HF.out]; exact HO.out), K, hB⟩
        case measure => simp [intOf] <;> omega
    · obtain rfl : m = k := by omega
      obtain ⟨A2, c2, rfl, hc2, _⟩ := own_reads HO.out
      have HT : Hid (us.take m = us) := Lib.hid (by rw [← HL.out]; exact List.take_length)
      have HE : Hid (q = (ofL us dom).length) := Lib.hid (by have := Hq.out; rwa [HT.out] at this)
      have HW : Hid (wr.ownsRow (w.heap.size + 1) 3 1 (.slice A2 q c2) q (vs (ofL us dom))) := Lib.hid (by have := HO.out; rwa [HT.out] at this)
      have HC2 := Lib.hid hc2
      have kz : wr.cell? ⟨w.heap.size, 1, none⟩ = some (.slice B m d) := K.cell 1
      clear hc2
      go_wp2
      go_ret
      exact ⟨A2, c2, by rw [← HE.out]; rfl, by rw [← HE.out]; exact HC2.out, by rw [← HE.out]; exact own_down HW.out (by omega), hB⟩

theorem take_eq {α : Type} {l m : List α} {k : Nat} {x : α} (h1 : l[k]? = some x) (h2 : m[k]? = some x) (h : l.take k = m.take k) : l.take (k + 1) = m.take (k + 1) := by
  rw [List.take_add_one, List.take_add_one, h1, h2, h]
theorem ne_at {α : Type} {l m : List α} {k : Nat} {x y : α} (h1 : l[k]? = some x) (h2 : m[k]? = some y) (h : x ≠ y) : l ≠ m := by
  rintro rfl
  rw [h1] at h2
  exact h (Option.some.inj h2)
theorem sameG_no1 {ds ds' : List Dom} {us us' : List Vc} (h : ds ≠ ds') : sameG ds us ds' us' = false := by unfold sameG; simp [h]
theorem sameG_no2 {ds ds' : List Dom} {us us' : List Vc} (h : us ≠ us') : sameG ds us ds' us' = false := by unfold sameG; simp [h]
theorem sameG_yes {ds ds' : List Dom} {us us' : List Vc} (h : ds = ds') (h2 : us = us') : sameG ds us ds' us' = true := by unfold sameG; simp [h, h2]
theorem sameG_self (ds : List Dom) (us : List Vc) : sameG ds us ds us = true := sameG_yes rfl rfl

set_option maxRecDepth 100000 in
set_option maxHeartbeats 8000000 in
theorem rsameG_any (A : Option Addr) (n c : Nat) (ds : List Dom) (B : Option Addr) (m d : Nat) (us : List Vc) (A' : Option Addr) (n' c' : Nat) (ds' : List Dom) (B' : Option Addr) (m' d' : Nat) (us' : List Vc) (w : World) (hG : GR w A n c ds B m d us) (hG' : GR w A' n' c' ds' B' m' d' us') :
    Calls Try.prog 14 #[.agg #[.slice A n c, .slice B m d], .agg #[.slice A' n' c', .slice B' m' d']] w (Said (.bool (sameG ds us ds' us')) w) := by
  have hl := hG.len
  have hl' := hG'.len
  have n9 : n ≤ 1000 := hG.n9
  have m9 : m ≤ 1000 := hG.m9
  obtain ⟨K1, K2, B0⟩ := blks2 w 25 25 #[.slice A n c, .slice B m d] #[.slice A' n' c', .slice B' m' d']
  have HB := Lib.hid (And.intro K1 (And.intro K2 B0))
  clear K1 K2 B0
  by_cases hnn : n = n'
  · have g0 : ((n : Int) == (n' : Int)) = true := by simp; omega
    by_cases hmm : m = m'
    · have g1 : ((m : Int) == (m' : Int)) = true := by simp; omega
      have HL := Lib.hid hl
      have HL' : Hid (ds'.length = n ∧ us'.length = m) := Lib.hid (by omega)
      have HR := Lib.hid hG
      have HR' := Lib.hid hG'
      subst hnn
      subst hmm
      clear hl hl' hG hG' g0 g1
      go_enter Try.func14, Try.ntmps14
      go_wp2_with fail
      go_loopw [5] (fun i wr => ∃ k : Nat, k ≤ n ∧ i = .int .i64 (k : Int) ∧ Hid (ds.take k = ds'.take k) ∧ Blk wr w.heap.size 25 #[.slice A n c, .slice B m d] ∧ Blk wr (w.heap.size + 1) 25 #[.slice A' n c', .slice B' m d'] ∧ Below w.heap.size w wr) (fun i _ => n - (intOf i).toNat)
      case atStart => exact ⟨0, by omega, rfl, Lib.hid rfl, HB.out.1, HB.out.2.1, HB.out.2.2⟩
      case round =>
        obtain ⟨k, hk, rfl, HA, K1, K2, hB⟩ := hrel
        by_cases hlt : k < n
        · obtain ⟨⟨x1, x2, x3, x4⟩, hm⟩ := elem_at (l := ds) (k := k) (by rw [HL.out.1]; exact hlt)
          obtain ⟨⟨y1, y2, y3, y4⟩, hm'⟩ := elem_at (l := ds') (k := k) (by rw [HL'.out.1]; exact hlt)
          obtain ⟨ad, rfl, hb1, c0, c1, c2, c3⟩ := dom_at (HR.out.doms.below hB) hm
          obtain ⟨ad', rfl, hb2, d0, d1, d2, d3⟩ := dom_at (HR'.out.doms.below hB) hm'
          have k1 : wr.cell? ⟨w.heap.size, 0, none⟩ = some (.slice (some ad) n c) := K1.cell 0
          have k2 : wr.cell? ⟨w.heap.size + 1, 0, none⟩ = some (.slice (some ad') n c') := K2.cell 0
          have i1 : (0 : Int) ≤ (k : Int) := by omega
          have i2 : (k : Int) < (n : Int) := by omega
          have HM := Lib.hid hm
          have HM' := Lib.hid hm'
          clear hm hm'
          by_cases h1 : x1 = y1
          · subst h1
            by_cases h2 : x2 = y2
            · subst h2
              by_cases h3 : x3 = y3
              · subst h3
                by_cases h4 : x4 = y4
                · subst h4
                  have HS := Lib.hid (take_eq HM.out HM'.out HA.out)
                  go_wp2_with fail
                  go_quiet (fail)
                  go_wp2
                  go_roundw
                  case rel => exact ⟨k + 1, by omega, by go_num, HS, K1.drewN _, K2.drewN _, below_drewN hB _⟩
                  case measure => simp [intOf]; omega
                · have HV := Lib.hid (sameG_no1 (us := us) (us' := us') ((ne_at HM.out HM'.out (fun e => h4 (by simp only [Prod.mk.injEq] at e; exact e.2.2.2)))))
                  have g2 : (x4 == y4) = false := by simp; omega
                  clear h4
                  go_wp2_with fail
                  go_quiet (fail)
                  go_wp2
                  go_ret
                  exact ⟨retB HV.out.symm, below_drewN hB _⟩
              · have HV := Lib.hid (sameG_no1 (us := us) (us' := us') ((ne_at HM.out HM'.out (fun e => h3 (by simp only [Prod.mk.injEq] at e; exact e.2.2.1)))))
                have g2 : (x3 == y3) = false := by simp; omega
                clear h3
                go_wp2_with fail
                go_quiet (fail)
                go_wp2
                go_ret
                exact ⟨retB HV.out.symm, below_drewN hB _⟩
            · have HV := Lib.hid (sameG_no1 (us := us) (us' := us') ((ne_at HM.out HM'.out (fun e => h2 (by simp only [Prod.mk.injEq] at e; exact e.2.1)))))
              have g2 : (x2 == y2) = false := by simp; omega
              clear h2
              go_wp2_with fail
              go_quiet (fail)
              go_wp2
              go_ret
              exact ⟨retB HV.out.symm, below_drewN hB _⟩
          · have HV := Lib.hid (sameG_no1 (us := us) (us' := us') ((ne_at HM.out HM'.out (fun e => h1 (by simp only [Prod.mk.injEq] at e; exact e.1)))))
            have g2 : (x1 == y1) = false := by simp; omega
            clear h1
            go_wp2_with fail
            go_quiet (fail)
            go_wp2
            go_ret
            exact ⟨retB HV.out.symm, below_drewN hB _⟩
        · obtain rfl : n = k := by omega
          have HD : Hid (ds = ds') := Lib.hid (by
            have h1 := HA.out
            rwa [show ds.take n = ds by rw [← HL.out.1]; exact List.take_length, show ds'.take n = ds' by rw [← HL'.out.1]; exact List.take_length] at h1)
          have k3 : wr.cell? ⟨w.heap.size, 0, none⟩ = some (.slice A n c) := K1.cell 0
          have HS := Lib.hid (And.intro K1 (And.intro K2 hB))
          clear HA K1 K2 hB hk hlt
          go_wp2_with fail
          clear k3
          go_loopw [6] (fun i wr => ∃ k : Nat, k ≤ m ∧ i = .int .i64 (k : Int) ∧ Hid (us.take k = us'.take k) ∧ Blk wr w.heap.size 25 #[.slice A n c, .slice B m d] ∧ Blk wr (w.heap.size + 1) 25 #[.slice A' n c', .slice B' m d'] ∧ Below w.heap.size w wr) (fun i _ => m - (intOf i).toNat)
          case atStart => exact ⟨0, by omega, rfl, Lib.hid rfl, HS.out.1, HS.out.2.1, HS.out.2.2⟩
          case round =>
            clear HS
            obtain ⟨k, hk, rfl, HA, K1, K2, hB⟩ := hrel
            by_cases hlt : k < m
            · obtain ⟨⟨x1, x2, x3, x4⟩, hm⟩ := elem_at (l := us) (k := k) (by rw [HL.out.2]; exact hlt)
              obtain ⟨⟨y1, y2, y3, y4⟩, hm'⟩ := elem_at (l := us') (k := k) (by rw [HL'.out.2]; exact hlt)
              obtain ⟨ad, rfl, hb1, c0, c1, c2, c3⟩ := vc_at (HR.out.vcs.below hB) hm
              obtain ⟨ad', rfl, hb2, d0, d1, d2, d3⟩ := vc_at (HR'.out.vcs.below hB) hm'
              have k1 : wr.cell? ⟨w.heap.size, 1, none⟩ = some (.slice (some ad) m d) := K1.cell 1
              have k2 : wr.cell? ⟨w.heap.size + 1, 1, none⟩ = some (.slice (some ad') m d') := K2.cell 1
              have i1 : (0 : Int) ≤ (k : Int) := by omega
              have i2 : (k : Int) < (m : Int) := by omega
              have HM := Lib.hid hm
              have HM' := Lib.hid hm'
              clear hm hm'
              by_cases h1 : x1 = y1
              · subst h1
                by_cases h2 : x2 = y2
                · subst h2
                  by_cases h3 : x3 = y3
                  · subst h3
                    by_cases h4 : x4 = y4
                    · subst h4
                      have HS := Lib.hid (take_eq HM.out HM'.out HA.out)
                      go_wp2_with fail
                      go_quiet (fail)
                      go_wp2
                      go_roundw
                      case rel => exact ⟨k + 1, by omega, by go_num, HS, K1.drewN _, K2.drewN _, below_drewN hB _⟩
                      case measure => simp [intOf]; omega
                    · have HV := Lib.hid (sameG_no2 (ds := ds) (ds' := ds') ((ne_at HM.out HM'.out (fun e => h4 (by simp only [Prod.mk.injEq] at e; exact e.2.2.2)))))
                      have g2 : ((x4 : Int) == (y4 : Int)) = false := by simp; omega
                      clear h4
                      go_wp2_with fail
                      go_quiet (fail)
                      go_wp2
                      go_ret
                      exact ⟨retB HV.out.symm, below_drewN hB _⟩
                  · have HV := Lib.hid (sameG_no2 (ds := ds) (ds' := ds') ((ne_at HM.out HM'.out (fun e => h3 (by simp only [Prod.mk.injEq] at e; exact e.2.2.1)))))
                    have g2 : ((x3 : Int) == (y3 : Int)) = false := by simp; omega
                    clear h3
                    go_wp2_with fail
                    go_quiet (fail)
                    go_wp2
                    go_ret
                    exact ⟨retB HV.out.symm, below_drewN hB _⟩
                · have HV := Lib.hid (sameG_no2 (ds := ds) (ds' := ds') ((ne_at HM.out HM'.out (fun e => h2 (by simp only [Prod.mk.injEq] at e; exact e.2.1)))))
                  have g2 : (x2 == y2) = false := by simp; omega
                  clear h2
                  go_wp2_with fail
                  go_quiet (fail)
                  go_wp2
                  go_ret
                  exact ⟨retB HV.out.symm, below_drewN hB _⟩
              · have HV := Lib.hid (sameG_no2 (ds := ds) (ds' := ds') ((ne_at HM.out HM'.out (fun e => h1 (by simp only [Prod.mk.injEq] at e; exact e.1)))))
                have g2 : (x1 == y1) = false := by simp; omega
                clear h1
                go_wp2_with fail
                go_quiet (fail)
                go_wp2
                go_ret
                exact ⟨retB HV.out.symm, below_drewN hB _⟩
            · obtain rfl : m = k := by omega
              have HV : Hid (sameG ds us ds' us' = true) := Lib.hid (sameG_yes HD.out (by
                have h1 := HA.out
                rwa [show us.take m = us by rw [← HL.out.2]; exact List.take_length, show us'.take m = us' by rw [← HL'.out.2]; exact List.take_length] at h1))
              have k3 : wr.cell? ⟨w.heap.size, 1, none⟩ = some (.slice B m d) := K1.cell 1
              go_wp2
              go_ret
              exact ⟨retB HV.out.symm, hB⟩
    · have g1 : ((m : Int) == (m' : Int)) = false := by simp; omega
      have HV := Lib.hid (sameG_no2 (ds := ds) (ds' := ds') (us := us) (us' := us') (fun h => hmm (by rw [← hl.2, ← hl'.2, h])))
      subst hnn
      clear hl hl' hG hG' g0
      go_enter Try.func14, Try.ntmps14
      go_wp2
      go_ret
      exact ⟨retB HV.out.symm, HB.out.2.2⟩
  · have g0 : ((n : Int) == (n' : Int)) = false := by simp; omega
    have HV := Lib.hid (sameG_no1 (ds := ds) (ds' := ds') (us := us) (us' := us') (fun h => hnn (by rw [← hl.1, ← hl'.1, h])))
    clear hl hl' hG hG' hnn
    go_enter Try.func14, Try.ntmps14
    go_wp2
    go_ret
    exact ⟨retB HV.out.symm, HB.out.2.2⟩

end Go.Proofs.Ytknimnopopnbhaa
