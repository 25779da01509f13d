/-
  Several texts as one.
-/
import Derived.Test.YtngbamoffjlodaaZRb
import Derived.Test.YtngbamoffjlodaaZOe
/-
  The document's Ahead and First, and the landed ones: plain mathematics. No statement is proved here.
-/
namespace Go.Proofs.Ytngbamoffjlodaa
open Go.RowKit Go.Maps

theorem ask_can {n h l x o : Nat} {f : Bool} {is : List Int} (hl : is.length = n) (hu : l < 2 ^ 64) : askB n h x = canE (is, (h, l, x), o, f) := by
  unfold askB canE fN fW
  simp only
  rw [rightN_of hu, hl]
theorem lex_lt {x y : Int} : (lex x y < 0) = (x < 0 ∨ (x = 0 ∧ y < 0)) := by
  unfold lex
  apply propext
  split <;> omega
theorem cmpW_cases (x y : Nat) : (cmpW x y < 0 ↔ x < y) ∧ (cmpW x y = 0 ↔ x = y) := ⟨cmpW_neg_iff, cmpW_zero⟩
theorem cmpY_neg {a b : Int} : cmpY a b < 0 ↔ a < b := by
  unfold cmpY
  (repeat' split) <;> omega
theorem cmp_two (a b : Nat) : cmpW a b = cmpI a b := rfl
theorem ahead_doc {n h l x o n' h' l' x' o' : Nat} {f f' : Bool} {is is' : List Int} (hl : is.length = n) (hl' : is'.length = n') (hu : l < 2 ^ 64) (hu' : l' < 2 ^ 64) :
    (askB n h x && askB n' h' x' && aheadB f f' (cmpI ((h * 2 ^ 64 + l) * x') ((h' * 2 ^ 64 + l') * x)) o o' (is.getD 0 0) (is'.getD 0 0)) = aheadE (is, (h, l, x), o, f) (is', (h', l', x'), o', f') := by
  rw [ask_can (o := o) (f := f) hl hu, ask_can (o := o') (f := f') hl' hu']
  unfold aheadE
  cases hc : canE (is, (h, l, x), o, f) with
  | false => rfl
  | true =>
    cases hc' : canE (is', (h', l', x'), o', f') with
    | false => rfl
    | true =>
      have h1 : rightN (fN (h, l, x)) (fW (h, l, x)) = true := (canE_iff.1 hc).2
      have h2 : rightN (fN (h', l', x')) (fW (h', l', x')) = true := (canE_iff.1 hc').2
      have hT : cmpT (h, l, x) (h', l', x') = cmpI ((h * 2 ^ 64 + l) * x') ((h' * 2 ^ 64 + l') * x) := by
        unfold cmpT cmpR
        rw [h1, h2, Bool.and_self, if_pos rfl, cmp_two]
        simp only [fN, fW]
      rw [← hT]
      unfold standI
      simp only
      generalize cmpT (h, l, x) (h', l', x') = t
      clear hT h1 h2 hc hc' hu hu'
      unfold firstE
      simp only
      generalize is.getD 0 0 = a
      generalize is'.getD 0 0 = b
      rw [Bool.and_self, Bool.true_and, Bool.true_and]
      obtain ⟨w1, w2⟩ := cmpW_cases o o'
      have y1 := cmpY_neg (a := a) (b := b)
      unfold aheadB
      cases f with
      | false =>
        cases f' with
        | false =>
          rw [show (false != false) = false from rfl, if_neg (by decide)]
          rw [show lex (cmpF false false) (lex t (lex (cmpW o o') (cmpY a b))) = lex t (lex (cmpW o o') (cmpY a b)) from lex_zero rfl]
          by_cases ht0 : t = 0
          · subst ht0
            rw [if_neg (by simp)]
            by_cases ho : o = o'
            · subst ho
              rw [if_neg (by simp)]
              exact decide_eq_decide.2 (by rw [lex_lt, lex_lt]; omega)
            · rw [if_pos ho]
              exact decide_eq_decide.2 (by rw [lex_lt, lex_lt]; omega)
          · rw [if_pos ht0]
            exact decide_eq_decide.2 (by rw [lex_lt]; omega)
        | true =>
          rw [show (false != true) = true from rfl, if_pos rfl]
          rw [show lex (cmpF false true) (lex t (lex (cmpW o o') (cmpY a b))) = 1 from rfl]
          rfl
      | true =>
        cases f' with
        | false =>
          rw [show (true != false) = true from rfl, if_pos rfl]
          rw [show lex (cmpF true false) (lex t (lex (cmpW o o') (cmpY a b))) = -1 from rfl]
          rfl
        | true =>
          rw [show (true != true) = false from rfl, if_neg (by decide)]
          rw [show lex (cmpF true true) (lex t (lex (cmpW o o') (cmpY a b))) = lex t (lex (cmpW o o') (cmpY a b)) from lex_zero rfl]
          by_cases ht0 : t = 0
          · subst ht0
            rw [if_neg (by simp)]
            by_cases ho : o = o'
            · subst ho
              rw [if_neg (by simp)]
              exact decide_eq_decide.2 (by rw [lex_lt, lex_lt]; omega)
            · rw [if_pos ho]
              exact decide_eq_decide.2 (by rw [lex_lt, lex_lt]; omega)
          · rw [if_pos ht0]
            exact decide_eq_decide.2 (by rw [lex_lt]; omega)

end Go.Proofs.Ytngbamoffjlodaa
/-
  The document's First; its Same of rows that are one. No statement is proved here.
-/
namespace Go.Proofs.Ytngbamoffjlodaa
open Go.RowKit Go.Maps

set_option maxRecDepth 100000 in
set_option maxHeartbeats 8000000 in
theorem esame_any (A : Option Addr) (n c : Nat) (E : List En) (A' : Option Addr) (c' : Nat) (E' : List En) (w : World) (hA : EQ w A n E) (hA' : EQ w A' n E') (hN : ∀ e ∈ E, e.1.2.1 ≤ 1000) (hEE : E.map et = E'.map et) :
    Calls Try.prog 15 #[.slice A n c, .slice A' n c'] w (Said (.bool true) w) := by
  have HQ1 := Lib.hid hA
  have HQ2 := Lib.hid hA'
  have HN := Lib.hid hN
  have HEE := Lib.hid hEE
  have hn := hA.small
  clear hA hA' hN hEE
  go_enter Try.func15, Try.ntmps15
  go_wp2_with fail
  go_loopw [13] (fun iv wr => ∃ k : Nat, k ≤ n ∧ iv = .int .i64 (k : Int) ∧ Hid (Below w.heap.size w wr)) (fun iv _ => n - (intOf iv).toNat)
  case atStart => exact ⟨0, by omega, rfl, Lib.hid (Below.refl _ _)⟩
  case round =>
    obtain ⟨k, hk, rfl, HB⟩ := hrel
    by_cases hlt : k < n
    · obtain ⟨⟨⟨A1, n1, c1, is⟩, ⟨h, l, x⟩, o, f⟩, hx⟩ := elem_at (l := E) (k := k) (by rw [HQ1.out.len]; exact hlt)
      obtain ⟨⟨⟨A2, n2, c2, is2⟩, ⟨h2, l2, x2⟩, o2, f2⟩, hy⟩ := elem_at (l := E') (k := k) (by rw [HQ2.out.len]; exact hlt)
      have hxe : (E.map et)[k]? = some (is, (h, l, x), o, f) := by rw [List.getElem?_map, hx]; rfl
      have hye : (E'.map et)[k]? = some (is2, (h2, l2, x2), o2, f2) := by rw [List.getElem?_map, hy]; rfl
      rw [HEE.out, hye] at hxe
      obtain ⟨rfl, ⟨rfl, rfl, rfl⟩, rfl, rfl⟩ : is2 = is ∧ (h2 = h ∧ l2 = l ∧ x2 = x) ∧ o2 = o ∧ f2 = f := by
        have := Option.some.inj hxe
        simp only [Prod.mk.injEq] at this
        exact this
      have hm1 : Reads w w.heap.size 1 A1 n1 (vs is2) := HQ1.out.mem _ (List.mem_of_getElem? hx)
      have hm2 : Reads w w.heap.size 1 A2 n2 (vs is2) := HQ2.out.mem _ (List.mem_of_getElem? hy)
      have hl1 : is2.length = n1 := HQ1.out.len_mem (List.mem_of_getElem? hx)
      have hl2 : is2.length = n2 := HQ2.out.len_mem (List.mem_of_getElem? hy)
      obtain rfl : n2 = n1 := hl2.symm.trans hl1
      have hlen : n2 ≤ 1000 := HN.out _ (List.mem_of_getElem? hx)
      have HEq := Lib.hid (fun (u : World) (hu : Below w.heap.size w u) => esame_one A1 n2 c1 A2 c2 h2 l2 x2 o2 f2 is2 u ⟨(hm1.below hu).more hu.size, hlen⟩ ⟨(hm2.below hu).more hu.size, hlen⟩)
      unfold agE at HEq
      obtain ⟨ad, rfl, _, _⟩ := HQ1.out.at_ hx
      obtain ⟨ae, rfl, _, _⟩ := HQ2.out.at_ hy
      have HF1 : Hid (∀ u, Below w.heap.size w u → u.cell? (ad.add (k * 6)) = some (.slice A1 n2 c1) ∧ u.cell? ⟨(ad.add (k * 6)).block, (ad.add (k * 6)).off + 1, none⟩ = some (.int .u64 (h2 : Int)) ∧ u.cell? ⟨(ad.add (k * 6)).block, (ad.add (k * 6)).off + 2, none⟩ = some (.int .u64 (l2 : Int)) ∧ u.cell? ⟨(ad.add (k * 6)).block, (ad.add (k * 6)).off + 3, none⟩ = some (.int .u64 (x2 : Int)) ∧ u.cell? ⟨(ad.add (k * 6)).block, (ad.add (k * 6)).off + 4, none⟩ = some (.int .u64 (o2 : Int)) ∧ u.cell? ⟨(ad.add (k * 6)).block, (ad.add (k * 6)).off + 5, none⟩ = some (.bool f2)) := Lib.hid (fun u hu => by
        obtain ⟨ad2, e2, _, b⟩ := (HQ1.out.below hu).at_ hx
        obtain rfl : ad = ad2 := Option.some.inj e2
        exact b)
      have HF2 : Hid (∀ u, Below w.heap.size w u → u.cell? (ae.add (k * 6)) = some (.slice A2 n2 c2) ∧ u.cell? ⟨(ae.add (k * 6)).block, (ae.add (k * 6)).off + 1, none⟩ = some (.int .u64 (h2 : Int)) ∧ u.cell? ⟨(ae.add (k * 6)).block, (ae.add (k * 6)).off + 2, none⟩ = some (.int .u64 (l2 : Int)) ∧ u.cell? ⟨(ae.add (k * 6)).block, (ae.add (k * 6)).off + 3, none⟩ = some (.int .u64 (x2 : Int)) ∧ u.cell? ⟨(ae.add (k * 6)).block, (ae.add (k * 6)).off + 4, none⟩ = some (.int .u64 (o2 : Int)) ∧ u.cell? ⟨(ae.add (k * 6)).block, (ae.add (k * 6)).off + 5, none⟩ = some (.bool f2)) := Lib.hid (fun u hu => by
        obtain ⟨ad2, e2, _, b⟩ := (HQ2.out.below hu).at_ hy
        obtain rfl : ae = ad2 := Option.some.inj e2
        exact b)
      have i1 : (0 : Int) ≤ (k : Int) := by omega
      have i2 : (k : Int) < (n : Int) := by omega
      have BW := HB.out.drew
      clear hx hy hxe hye hm1 hm2 hl1 hl2 hlen
      go_upto_region 6 with fail
      refine wp_region_held_drew (S := fun u => Below w.heap.size w u) (by kernel_rfl) BW (fun hS => ?_)
      clear BW
      generalize World.drew wr = Y2 at hS ⊢
      refine wpAnyH_take (i := 0) (v := .slice (some ad) n c) rfl (by kernel_rfl) (by kernel_rfl) (by kernel_rfl) (fun _ _ _ h => h) (Or.inl ⟨by kernel_rfl, fun u hSw => (by go_simp)⟩) hS ?_
      change wpAnyH _ _ _ _ _ _ _ (Act.put _ (some 16) _) _
      simp only [Act.put]
      try simp only [List.setIfInBounds_toArray, List.set_cons_zero, List.set_cons_succ]
      refine wpAnyH_take (i := 1) (v := .int .i64 (k : Int)) rfl (by kernel_rfl) (by kernel_rfl) (by kernel_rfl) (fun _ _ _ h => h) (Or.inl ⟨by kernel_rfl, fun u hSw => (by go_simp)⟩) hS ?_
      change wpAnyH _ _ _ _ _ _ _ (Act.put _ (some 17) _) _
      simp only [Act.put]
      try simp only [List.setIfInBounds_toArray, List.set_cons_zero, List.set_cons_succ]
      refine wpAnyH_take (i := 2) (v := .pointer (some (ad.add (k * 6)))) rfl (by kernel_rfl) (by kernel_rfl) (by kernel_rfl) (fun _ _ _ h => h) (Or.inl ⟨by kernel_rfl, fun u hSw => (by go_simp)⟩) hS ?_
      change wpAnyH _ _ _ _ _ _ _ (Act.put _ (some 18) _) _
      simp only [Act.put]
      try simp only [List.setIfInBounds_toArray, List.set_cons_zero, List.set_cons_succ]
      refine wpAnyH_take (i := 3) (v := .agg #[.slice A1 n2 c1, .int .u64 (h2 : Int), .int .u64 (l2 : Int), .int .u64 (x2 : Int), .int .u64 (o2 : Int), .bool f2]) rfl (by kernel_rfl) (by kernel_rfl) (by kernel_rfl) (fun _ _ _ h => h) (Or.inl ⟨by kernel_rfl, fun u hSw => (by obtain ⟨q0, q1, q2, q3, q4, q5⟩ := HF1.out u hSw; go_simp)⟩) hS ?_
      change wpAnyH _ _ _ _ _ _ _ (Act.put _ (some 19) _) _
      simp only [Act.put]
      try simp only [List.setIfInBounds_toArray, List.set_cons_zero, List.set_cons_succ]
      refine wpAnyH_take (i := 4) (v := .slice (some ae) n c') rfl (by kernel_rfl) (by kernel_rfl) (by kernel_rfl) (fun _ _ _ h => h) (Or.inl ⟨by kernel_rfl, fun u hSw => (by go_simp)⟩) hS ?_
      change wpAnyH _ _ _ _ _ _ _ (Act.put _ (some 20) _) _
      simp only [Act.put]
      try simp only [List.setIfInBounds_toArray, List.set_cons_zero, List.set_cons_succ]
      refine wpAnyH_take (i := 5) (v := .int .i64 (k : Int)) rfl (by kernel_rfl) (by kernel_rfl) (by kernel_rfl) (fun _ _ _ h => h) (Or.inl ⟨by kernel_rfl, fun u hSw => (by go_simp)⟩) hS ?_
      change wpAnyH _ _ _ _ _ _ _ (Act.put _ (some 21) _) _
      simp only [Act.put]
      try simp only [List.setIfInBounds_toArray, List.set_cons_zero, List.set_cons_succ]
      refine wpAnyH_take (i := 6) (v := .pointer (some (ae.add (k * 6)))) rfl (by kernel_rfl) (by kernel_rfl) (by kernel_rfl) (fun _ _ _ h => h) (Or.inl ⟨by kernel_rfl, fun u hSw => (by go_simp)⟩) hS ?_
      change wpAnyH _ _ _ _ _ _ _ (Act.put _ (some 22) _) _
      simp only [Act.put]
      try simp only [List.setIfInBounds_toArray, List.set_cons_zero, List.set_cons_succ]
      refine wpAnyH_take (i := 7) (v := .agg #[.slice A2 n2 c2, .int .u64 (h2 : Int), .int .u64 (l2 : Int), .int .u64 (x2 : Int), .int .u64 (o2 : Int), .bool f2]) rfl (by kernel_rfl) (by kernel_rfl) (by kernel_rfl) (fun _ _ _ h => h) (Or.inl ⟨by kernel_rfl, fun u hSw => (by obtain ⟨q0, q1, q2, q3, q4, q5⟩ := HF2.out u hSw; go_simp)⟩) hS ?_
      change wpAnyH _ _ _ _ _ _ _ (Act.put _ (some 23) _) _
      simp only [Act.put]
      try simp only [List.setIfInBounds_toArray, List.set_cons_zero, List.set_cons_succ]
      refine wpAnyH_ready (rs := [8]) (by kernel_rfl) (by simp) ?_
      refine AllReadyH.cons rfl (fun K hK => ?_) AllReadyH.nil
      go_simp
      refine (HEq.out _ hS).mono ?_
      rintro e1 w1 ⟨rfl, h9⟩
      have S1 : Below w.heap.size w w1 := hS.trans (h9.mono hS.size)
      clear h9 hS
      refine hK.out _ _ S1 (fun hS => ?_)
      clear hK K S1
      refine wpAnyH_take (i := 9) (v := .bool false) rfl (by kernel_rfl) (by kernel_rfl) (by kernel_rfl) (fun _ _ _ h => h) (Or.inl ⟨by kernel_rfl, fun u hSw => (by go_simp)⟩) hS ?_
      change wpAnyH _ _ _ _ _ _ _ (Act.put _ (some 25) _) _
      simp only [Act.put]
      try simp only [List.setIfInBounds_toArray, List.set_cons_zero, List.set_cons_succ]
      refine wpAnyH_done (by kernel_rfl) ?_ _
      have HB8 := Lib.hid hS
      clear hS
      go_wp2_with fail
      go_roundw
      case rel => exact ⟨k + 1, by omega, by go_num, HB8⟩
      case measure => simp [intOf] <;> omega
    · obtain rfl : k = n := by omega
      go_wp2_with fail
      go_ret
      exact ⟨rfl, HB.out⟩

end Go.Proofs.Ytngbamoffjlodaa
