/-
  The contract of the document's Right. No statement is proved here.
-/
import Derived.Test.YtknimnopopnbhaaDd
namespace Go.Proofs.Ytknimnopopnbhaa
open Go.RowKit

set_option maxRecDepth 100000 in
set_option maxHeartbeats 32000000 in
theorem rrightG_any (A : Option Addr) (n c : Nat) (ds : List Dom) (B : Option Addr) (m d : Nat) (us : List Vc) (w : World) (hG : GR w A n c ds B m d us) :
    Calls Try.prog 18 #[.agg #[.slice A n c, .slice B m d]] w (Said (.bool (rightG ds us)) w) := by
  have hl := hG.len
  have n9 := hG.n9
  have m9 := hG.m9
  have HL := Lib.hid hl
  have HR := Lib.hid hG
  have HK := Lib.hid (box1 w 25 #[.slice A n c, .slice B m d])
  clear hG
  by_cases hn : n ≤ 8
  · have e1 : decide ((8 : Int) < (n : Int)) = false := decide_eq_false (by omega)
    by_cases hm : m ≤ 16
    · have e2 : decide ((16 : Int) < (m : Int)) = false := decide_eq_false (by omega)
      have HNM : Hid (ds.length ≤ 8 ∧ us.length ≤ 16) := Lib.hid (by omega)
      clear hl hn hm
      go_enter Try.func18, Try.ntmps18
      go_wp2_with fail
      clear e1 e2
      go_loopw [3] (fun iv wr => ∃ i : Nat, i ≤ n ∧ iv = .int .i64 (i : Int) ∧ Hid (allK (domOk ds us) i = true) ∧ Blk wr w.heap.size 25 #[.slice A n c, .slice B m d] ∧ Below w.heap.size w wr) (fun iv _ => n - (intOf iv).toNat)
      case atStart => exact ⟨0, by omega, rfl, Lib.hid rfl, HK.out.1, HK.out.2⟩
      case round =>
        obtain ⟨i, hi, rfl, HA, KB, GB⟩ := hrel
        by_cases hlt : i < n
        · have kk := KB.cell 0
          obtain ⟨⟨x1, x2, x3, x4⟩, hx⟩ := elem_at (l := ds) (k := i) (by rw [HL.out.1]; exact hlt)
          obtain ⟨ad, hA, _⟩ := dom_at (HR.out.doms.below GB) hx
          subst hA
          have HX : Hid (∀ u, Below w.heap.size w u → u.cell? (ad.add (i * 4)) = some (.int .i64 x1) ∧ u.cell? ⟨(ad.add (i * 4)).block, (ad.add (i * 4)).off + 1, none⟩ = some (.int .i64 x2) ∧ u.cell? ⟨(ad.add (i * 4)).block, (ad.add (i * 4)).off + 2, none⟩ = some (.int .i64 x3) ∧ u.cell? ⟨(ad.add (i * 4)).block, (ad.add (i * 4)).off + 3, none⟩ = some (.int .i64 x4)) := Lib.hid (fun u h => by
            obtain ⟨ad2, e, _, q⟩ := dom_at (HR.out.doms.below h) hx
            injection e with e
            subst e
            exact q)
          have hg : ds.getD i zeroD = (x1, x2, x3, x4) := dgetD hx
          have HRD := Lib.hid (fun u => rrightD_any x1 x2 x3 x4 u)
          have HOf := Lib.hid (fun (u : World) (h : Below w.heap.size w u) => rofG_any (some ad) n c ds B m d us x1 u (HR.out.below h))
          obtain ⟨Q, hQ⟩ : ∃ Q, (ofL us x1).length = Q := ⟨_, rfl⟩
          have HQ := Lib.hid hQ
          have Q9 : Q ≤ 1000 := by have := ofL_le us x1; have := HL.out.2; omega
          have i0 : (0 : Int) ≤ (i : Int) := by omega
          have i1 : (i : Int) < (n : Int) := by omega
          have hok : domOk ds us i = (rightD (x1, x2, x3, x4) && (decide (i = 0) || decide ((ds.getD (i - 1) zeroD).1 < x1)) && decide (Q ≤ 8)) := by unfold domOk; rw [hg, ← hQ]
          have hno : domOk ds us i = false → rightG ds us = false := fun h => by unfold rightG; rw [allK_no (by rw [HL.out.1]; exact hlt) h]; simp
          clear hx hg hQ
          cases hr : rightD (x1, x2, x3, x4) with
          | false =>
            have HV := Lib.hid (hno (by rw [hok, hr]; rfl))
            rw [hr] at HRD
            clear hok hno hr
            go_upto_region 6 with fail
            replace GB := GB.drew
            replace KB : Blk wr.drew _ _ _ := KB
            refine wp_region_held_drew (S := fun u => Below w.heap.size w u ∧ Blk u w.heap.size 25 #[.slice (some ad) n c, .slice B m d]) (by kernel_rfl) ⟨GB, KB⟩ (fun hS => ?_)
            generalize wr.drew = V at GB KB hS ⊢
            refine wpAnyH_take (i := 0) (v := .pointer (some ⟨w.heap.size, 0, none⟩)) rfl (by kernel_rfl) (by kernel_rfl) (by kernel_rfl) (fun _ _ _ h => h) (Or.inl ⟨by kernel_rfl, fun u hSw => (by go_simp)⟩) hS ?_
            change wpAnyH _ _ _ _ _ _ _ (Act.put _ (some 25) _) _
            simp only [Act.put]
            refine wpAnyH_take (i := 1) (v := .slice (some ad) n c) rfl (by kernel_rfl) (by kernel_rfl) (by kernel_rfl) (fun _ _ _ h => h) (Or.inl ⟨by kernel_rfl, fun u hSw => (by have q := hSw.2.cell 0; go_simp)⟩) hS ?_
            change wpAnyH _ _ _ _ _ _ _ (Act.put _ (some 26) _) _
            simp only [Act.put]
            refine wpAnyH_take (i := 2) (v := .int .i64 (i : Int)) rfl (by kernel_rfl) (by kernel_rfl) (by kernel_rfl) (fun _ _ _ h => h) (Or.inl ⟨by kernel_rfl, fun u hSw => (by go_simp)⟩) hS ?_
            change wpAnyH _ _ _ _ _ _ _ (Act.put _ (some 27) _) _
            simp only [Act.put]
            refine wpAnyH_take (i := 3) (v := .pointer (some (ad.add (i * 4)))) rfl (by kernel_rfl) (by kernel_rfl) (by kernel_rfl) (fun _ _ _ h => h) (Or.inl ⟨by kernel_rfl, fun u hSw => (by go_simp)⟩) hS ?_
            change wpAnyH _ _ _ _ _ _ _ (Act.put _ (some 28) _) _
            simp only [Act.put]
            refine wpAnyH_take (i := 4) (v := .agg #[.int .i64 x1, .int .i64 x2, .int .i64 x3, .int .i64 x4]) rfl (by kernel_rfl) (by kernel_rfl) (by kernel_rfl) (fun _ _ _ h => h) (Or.inl ⟨by kernel_rfl, fun u hSw => (by obtain ⟨q0, q1, q2, q3⟩ := HX.out u hSw.1; go_simp)⟩) hS ?_
            change wpAnyH _ _ _ _ _ _ _ (Act.put _ (some 29) _) _
            simp only [Act.put]
            refine wpAnyH_ready (rs := [5]) (by kernel_rfl) (by simp) ?_
            refine AllReadyH.cons rfl (fun K hK => ?_) AllReadyH.nil
            go_simp
            refine (HRD.out _).mono ?_
            rintro e1 w1 ⟨rfl, h9⟩
            replace KB := KB.below h9 KB.lt
            replace GB := GB.trans (h9.mono GB.size)
            clear h9
            refine hK.out _ _ ⟨GB, KB⟩ (fun hS => ?_)
            clear hK K
            refine wpAnyH_take (i := 6) (v := .bool true) rfl (by kernel_rfl) (by kernel_rfl) (by kernel_rfl) (fun _ _ _ h => h) (Or.inl ⟨by kernel_rfl, fun u hSw => (by go_simp)⟩) hS ?_
            change wpAnyH _ _ _ _ _ _ _ (Act.put _ (some 31) _) _
            simp only [Act.put]
            refine wpAnyH_take (i := 7) (v := .bool true) rfl (by kernel_rfl) (by kernel_rfl) (by kernel_rfl) (fun _ _ _ h => h) (Or.inl ⟨by kernel_rfl, fun u hSw => (by go_simp)⟩) hS ?_
            change wpAnyH _ _ _ _ _ _ _ (Act.put _ (some 32) _) _
            simp only [Act.put]
            refine wpAnyH_take (i := 8) (v := undef) rfl (by kernel_rfl) (by kernel_rfl) (by kernel_rfl) (fun _ _ _ h => h) (Or.inr ⟨by kernel_rfl, rfl⟩) hS ?_
            change wpAnyH _ _ _ _ _ _ _ (Act.put _ (some 33) _) _
            simp only [Act.put]
            refine wpAnyH_take (i := 9) (v := undef) rfl (by kernel_rfl) (by kernel_rfl) (by kernel_rfl) (fun _ _ _ h => h) (Or.inr ⟨by kernel_rfl, rfl⟩) hS ?_
            change wpAnyH _ _ _ _ _ _ _ (Act.put _ (some 34) _) _
            simp only [Act.put]
            refine wpAnyH_take (i := 10) (v := undef) rfl (by kernel_rfl) (by kernel_rfl) (by kernel_rfl) (fun _ _ _ h => h) (Or.inr ⟨by kernel_rfl, rfl⟩) hS ?_
            change wpAnyH _ _ _ _ _ _ _ (Act.put _ (some 35) _) _
            simp only [Act.put]
            refine wpAnyH_take (i := 11) (v := undef) rfl (by kernel_rfl) (by kernel_rfl) (by kernel_rfl) (fun _ _ _ h => h) (Or.inr ⟨by kernel_rfl, rfl⟩) hS ?_
            change wpAnyH _ _ _ _ _ _ _ (Act.put _ (some 36) _) _
            simp only [Act.put]
            refine wpAnyH_take (i := 12) (v := undef) rfl (by kernel_rfl) (by kernel_rfl) (by kernel_rfl) (fun _ _ _ h => h) (Or.inr ⟨by kernel_rfl, rfl⟩) hS ?_
            change wpAnyH _ _ _ _ _ _ _ (Act.put _ (some 37) _) _
            simp only [Act.put]
            refine wpAnyH_take (i := 13) (v := undef) rfl (by kernel_rfl) (by kernel_rfl) (by kernel_rfl) (fun _ _ _ h => h) (Or.inr ⟨by kernel_rfl, rfl⟩) hS ?_
            change wpAnyH _ _ _ _ _ _ _ (Act.put _ (some 38) _) _
            simp only [Act.put]
            refine wpAnyH_take (i := 14) (v := undef) rfl (by kernel_rfl) (by kernel_rfl) (by kernel_rfl) (fun _ _ _ h => h) (Or.inr ⟨by kernel_rfl, rfl⟩) hS ?_
            change wpAnyH _ _ _ _ _ _ _ (Act.put _ (some 39) _) _
            simp only [Act.put]
            refine wpAnyH_take (i := 15) (v := undef) rfl (by kernel_rfl) (by kernel_rfl) (by kernel_rfl) (fun _ _ _ h => h) (Or.inr ⟨by kernel_rfl, rfl⟩) hS ?_
            change wpAnyH _ _ _ _ _ _ _ (Act.put _ (some 40) _) _
            simp only [Act.put]
            refine wpAnyH_take (i := 16) (v := undef) rfl (by kernel_rfl) (by kernel_rfl) (by kernel_rfl) (fun _ _ _ h => h) (Or.inr ⟨by kernel_rfl, rfl⟩) hS ?_
            change wpAnyH _ _ _ _ _ _ _ (Act.put _ (some 41) _) _
            simp only [Act.put]
            refine wpAnyH_take (i := 17) (v := undef) rfl (by kernel_rfl) (by kernel_rfl) (by kernel_rfl) (fun _ _ _ h => h) (Or.inr ⟨by kernel_rfl, rfl⟩) hS ?_
            change wpAnyH _ _ _ _ _ _ _ (Act.put _ (some 42) _) _
            simp only [Act.put]
            refine wpAnyH_take (i := 18) (v := undef) rfl (by kernel_rfl) (by kernel_rfl) (by kernel_rfl) (fun _ _ _ h => h) (Or.inr ⟨by kernel_rfl, rfl⟩) hS ?_
            change wpAnyH _ _ _ _ _ _ _ (Act.put _ (some 43) _) _
            simp only [Act.put]
            refine wpAnyH_take (i := 19) (v := undef) rfl (by kernel_rfl) (by kernel_rfl) (by kernel_rfl) (fun _ _ _ h => h) (Or.inr ⟨by kernel_rfl, rfl⟩) hS ?_
            change wpAnyH _ _ _ _ _ _ _ (Act.put _ (some 44) _) _
            simp only [Act.put]
            refine wpAnyH_take (i := 20) (v := undef) rfl (by kernel_rfl) (by kernel_rfl) (by kernel_rfl) (fun _ _ _ h => h) (Or.inr ⟨by kernel_rfl, rfl⟩) hS ?_
            change wpAnyH _ _ _ _ _ _ _ (Act.put _ (some 45) _) _
            simp only [Act.put]
            refine wpAnyH_take (i := 21) (v := undef) rfl (by kernel_rfl) (by kernel_rfl) (by kernel_rfl) (fun _ _ _ h => h) (Or.inr ⟨by kernel_rfl, rfl⟩) hS ?_
            change wpAnyH _ _ _ _ _ _ _ (Act.put _ (some 46) _) _
            simp only [Act.put]
            refine wpAnyH_take (i := 22) (v := undef) rfl (by kernel_rfl) (by kernel_rfl) (by kernel_rfl) (fun _ _ _ h => h) (Or.inr ⟨by kernel_rfl, rfl⟩) hS ?_
            change wpAnyH _ _ _ _ _ _ _ (Act.put _ (some 47) _) _
            simp only [Act.put]
            refine wpAnyH_take (i := 23) (v := undef) rfl (by kernel_rfl) (by kernel_rfl) (by kernel_rfl) (fun _ _ _ h => h) (Or.inr ⟨by kernel_rfl, rfl⟩) hS ?_
            change wpAnyH _ _ _ _ _ _ _ (Act.put _ (some 48) _) _
            simp only [Act.put]
            refine wpAnyH_take (i := 24) (v := undef) rfl (by kernel_rfl) (by kernel_rfl) (by kernel_rfl) (fun _ _ _ h => h) (Or.inr ⟨by kernel_rfl, rfl⟩) hS ?_
            change wpAnyH _ _ _ _ _ _ _ (Act.put _ (some 49) _) _
            simp only [Act.put]
            refine wpAnyH_take (i := 25) (v := undef) rfl (by kernel_rfl) (by kernel_rfl) (by kernel_rfl) (fun _ _ _ h => h) (Or.inr ⟨by kernel_rfl, rfl⟩) hS ?_
            change wpAnyH _ _ _ _ _ _ _ (Act.put _ (some 50) _) _
            simp only [Act.put]
            refine wpAnyH_take (i := 26) (v := .bool true) rfl (by kernel_rfl) (by kernel_rfl) (by kernel_rfl) (fun _ _ _ h => h) (Or.inl ⟨by kernel_rfl, fun u hSw => (by go_simp)⟩) hS ?_
            change wpAnyH _ _ _ _ _ _ _ (Act.put _ (some 51) _) _
            simp only [Act.put]
            refine wpAnyH_take (i := 27) (v := .bool true) rfl (by kernel_rfl) (by kernel_rfl) (by kernel_rfl) (fun _ _ _ h => h) (Or.inl ⟨by kernel_rfl, fun u hSw => (by go_simp)⟩) hS ?_
            change wpAnyH _ _ _ _ _ _ _ (Act.put _ (some 52) _) _
            simp only [Act.put]
            refine wpAnyH_take (i := 28) (v := undef) rfl (by kernel_rfl) (by kernel_rfl) (by kernel_rfl) (fun _ _ _ h => h) (Or.inr ⟨by kernel_rfl, rfl⟩) hS ?_
            change wpAnyH _ _ _ _ _ _ _ (Act.put _ (some 53) _) _
            simp only [Act.put]
            refine wpAnyH_take (i := 29) (v := undef) rfl (by kernel_rfl) (by kernel_rfl) (by kernel_rfl) (fun _ _ _ h => h) (Or.inr ⟨by kernel_rfl, rfl⟩) hS ?_
            change wpAnyH _ _ _ _ _ _ _ (Act.put _ (some 54) _) _
            simp only [Act.put]
            refine wpAnyH_take (i := 30) (v := undef) rfl (by kernel_rfl) (by kernel_rfl) (by kernel_rfl) (fun _ _ _ h => h) (Or.inr ⟨by kernel_rfl, rfl⟩) hS ?_
            change wpAnyH _ _ _ _ _ _ _ (Act.put _ (some 55) _) _
            simp only [Act.put]
            refine wpAnyH_take (i := 31) (v := undef) rfl (by kernel_rfl) (by kernel_rfl) (by kernel_rfl) (fun _ _ _ h => h) (Or.inr ⟨by kernel_rfl, rfl⟩) hS ?_
            change wpAnyH _ _ _ _ _ _ _ (Act.put _ (some 56) _) _
            simp only [Act.put]
            refine wpAnyH_take (i := 32) (v := undef) rfl (by kernel_rfl) (by kernel_rfl) (by kernel_rfl) (fun _ _ _ h => h) (Or.inr ⟨by kernel_rfl, rfl⟩) hS ?_
            change wpAnyH _ _ _ _ _ _ _ (Act.put _ (some 57) _) _
            simp only [Act.put]
            refine wpAnyH_take (i := 33) (v := undef) rfl (by kernel_rfl) (by kernel_rfl) (by kernel_rfl) (fun _ _ _ h => h) (Or.inr ⟨by kernel_rfl, rfl⟩) hS ?_
            change wpAnyH _ _ _ _ _ _ _ (Act.put _ (some 58) _) _
            simp only [Act.put]
            refine wpAnyH_take (i := 34) (v := undef) rfl (by kernel_rfl) (by kernel_rfl) (by kernel_rfl) (fun _ _ _ h => h) (Or.inr ⟨by kernel_rfl, rfl⟩) hS ?_
            change wpAnyH _ _ _ _ _ _ _ (Act.put _ (some 59) _) _
            simp only [Act.put]
            refine wpAnyH_take (i := 35) (v := undef) rfl (by kernel_rfl) (by kernel_rfl) (by kernel_rfl) (fun _ _ _ h => h) (Or.inr ⟨by kernel_rfl, rfl⟩) hS ?_
            change wpAnyH _ _ _ _ _ _ _ (Act.put _ (some 60) _) _
            simp only [Act.put]
            refine wpAnyH_take (i := 36) (v := undef) rfl (by kernel_rfl) (by kernel_rfl) (by kernel_rfl) (fun _ _ _ h => h) (Or.inr ⟨by kernel_rfl, rfl⟩) hS ?_
            change wpAnyH _ _ _ _ _ _ _ (Act.put _ (some 61) _) _
            simp only [Act.put]
            refine wpAnyH_take (i := 37) (v := undef) rfl (by kernel_rfl) (by kernel_rfl) (by kernel_rfl) (fun _ _ _ h => h) (Or.inr ⟨by kernel_rfl, rfl⟩) hS ?_
            change wpAnyH _ _ _ _ _ _ _ (Act.put _ (some 62) _) _
            simp only [Act.put]
            refine wpAnyH_take (i := 38) (v := .bool true) rfl (by kernel_rfl) (by kernel_rfl) (by kernel_rfl) (fun _ _ _ h => h) (Or.inl ⟨by kernel_rfl, fun u hSw => (by go_simp)⟩) hS ?_
            change wpAnyH _ _ _ _ _ _ _ (Act.put _ (some 63) _) _
            simp only [Act.put]
            refine wpAnyH_done (by kernel_rfl) ?_ _
            clear hS
            go_simp
            have HB := Lib.hid GB
            clear GB KB
            go_wp2
            go_ret
            exact ⟨retB HV.out.symm, HB.out⟩
          | true =>
            rw [hr] at HRD
            by_cases hi : i = 0
            · have ip : decide ((0 : Int) < (i : Int)) = false := decide_eq_false (by omega)
              have HIp := Lib.hid hi
              by_cases h8 : Q ≤ 8
              · have HN := Lib.hid (allK_step HA.out (by rw [hok, hr]; simp [hi, h8]))
                have q8 : decide ((8 : Int) < (Q : Int)) = false := decide_eq_false (by omega)
                clear hok hno hr hi h8
                go_upto_region 6 with fail
                replace GB := GB.drew
                replace KB : Blk wr.drew _ _ _ := KB
                refine wp_region_held_drew (S := fun u => Below w.heap.size w u ∧ Blk u w.heap.size 25 #[.slice (some ad) n c, .slice B m d]) (by kernel_rfl) ⟨GB, KB⟩ (fun hS => ?_)
                generalize wr.drew = V at GB KB hS ⊢
                refine wpAnyH_take (i := 0) (v := .pointer (some ⟨w.heap.size, 0, none⟩)) rfl (by kernel_rfl) (by kernel_rfl) (by kernel_rfl) (fun _ _ _ h => h) (Or.inl ⟨by kernel_rfl, fun u hSw => (by go_simp)⟩) hS ?_
                change wpAnyH _ _ _ _ _ _ _ (Act.put _ (some 25) _) _
                simp only [Act.put]
                refine wpAnyH_take (i := 1) (v := .slice (some ad) n c) rfl (by kernel_rfl) (by kernel_rfl) (by kernel_rfl) (fun _ _ _ h => h) (Or.inl ⟨by kernel_rfl, fun u hSw => (by have q := hSw.2.cell 0; go_simp)⟩) hS ?_
                change wpAnyH _ _ _ _ _ _ _ (Act.put _ (some 26) _) _
                simp only [Act.put]
                refine wpAnyH_take (i := 2) (v := .int .i64 (i : Int)) rfl (by kernel_rfl) (by kernel_rfl) (by kernel_rfl) (fun _ _ _ h => h) (Or.inl ⟨by kernel_rfl, fun u hSw => (by go_simp)⟩) hS ?_
                change wpAnyH _ _ _ _ _ _ _ (Act.put _ (some 27) _) _
                simp only [Act.put]
                refine wpAnyH_take (i := 3) (v := .pointer (some (ad.add (i * 4)))) rfl (by kernel_rfl) (by kernel_rfl) (by kernel_rfl) (fun _ _ _ h => h) (Or.inl ⟨by kernel_rfl, fun u hSw => (by go_simp)⟩) hS ?_
                change wpAnyH _ _ _ _ _ _ _ (Act.put _ (some 28) _) _
                simp only [Act.put]
                refine wpAnyH_take (i := 4) (v := .agg #[.int .i64 x1, .int .i64 x2, .int .i64 x3, .int .i64 x4]) rfl (by kernel_rfl) (by kernel_rfl) (by kernel_rfl) (fun _ _ _ h => h) (Or.inl ⟨by kernel_rfl, fun u hSw => (by obtain ⟨q0, q1, q2, q3⟩ := HX.out u hSw.1; go_simp)⟩) hS ?_
                change wpAnyH _ _ _ _ _ _ _ (Act.put _ (some 29) _) _
                simp only [Act.put]
                refine wpAnyH_ready (rs := [5]) (by kernel_rfl) (by simp) ?_
                refine AllReadyH.cons rfl (fun K hK => ?_) AllReadyH.nil
                go_simp
                refine (HRD.out _).mono ?_
                rintro e1 w1 ⟨rfl, h9⟩
                replace KB := KB.below h9 KB.lt
                replace GB := GB.trans (h9.mono GB.size)
                clear h9
                refine hK.out _ _ ⟨GB, KB⟩ (fun hS => ?_)
                clear hK K
                refine wpAnyH_take (i := 6) (v := .bool false) rfl (by kernel_rfl) (by kernel_rfl) (by kernel_rfl) (fun _ _ _ h => h) (Or.inl ⟨by kernel_rfl, fun u hSw => (by go_simp)⟩) hS ?_
                change wpAnyH _ _ _ _ _ _ _ (Act.put _ (some 31) _) _
                simp only [Act.put]
                refine wpAnyH_take (i := 7) (v := .bool false) rfl (by kernel_rfl) (by kernel_rfl) (by kernel_rfl) (fun _ _ _ h => h) (Or.inl ⟨by kernel_rfl, fun u hSw => (by go_simp)⟩) hS ?_
                change wpAnyH _ _ _ _ _ _ _ (Act.put _ (some 32) _) _
                simp only [Act.put]
                refine wpAnyH_take (i := 8) (v := .int .i64 (i : Int)) rfl (by kernel_rfl) (by kernel_rfl) (by kernel_rfl) (fun _ _ _ h => h) (Or.inl ⟨by kernel_rfl, fun u hSw => (by go_simp)⟩) hS ?_
                change wpAnyH _ _ _ _ _ _ _ (Act.put _ (some 33) _) _
                simp only [Act.put]
                refine wpAnyH_take (i := 9) (v := .bool false) rfl (by kernel_rfl) (by kernel_rfl) (by kernel_rfl) (fun _ _ _ h => h) (Or.inl ⟨by kernel_rfl, fun u hSw => (by go_simp; exact HIp.out)⟩) hS ?_
                change wpAnyH _ _ _ _ _ _ _ (Act.put _ (some 34) _) _
                simp only [Act.put]
                refine wpAnyH_take (i := 10) (v := .bool false) rfl (by kernel_rfl) (by kernel_rfl) (by kernel_rfl) (fun _ _ _ h => h) (Or.inl ⟨by kernel_rfl, fun u hSw => (by go_simp)⟩) hS ?_
                change wpAnyH _ _ _ _ _ _ _ (Act.put _ (some 35) _) _
                simp only [Act.put]
                refine wpAnyH_take (i := 11) (v := undef) rfl (by kernel_rfl) (by kernel_rfl) (by kernel_rfl) (fun _ _ _ h => h) (Or.inr ⟨by kernel_rfl, rfl⟩) hS ?_
                change wpAnyH _ _ _ _ _ _ _ (Act.put _ (some 36) _) _
                simp only [Act.put]
                refine wpAnyH_take (i := 12) (v := undef) rfl (by kernel_rfl) (by kernel_rfl) (by kernel_rfl) (fun _ _ _ h => h) (Or.inr ⟨by kernel_rfl, rfl⟩) hS ?_
                change wpAnyH _ _ _ _ _ _ _ (Act.put _ (some 37) _) _
                simp only [Act.put]
                refine wpAnyH_take (i := 13) (v := undef) rfl (by kernel_rfl) (by kernel_rfl) (by kernel_rfl) (fun _ _ _ h => h) (Or.inr ⟨by kernel_rfl, rfl⟩) hS ?_
                change wpAnyH _ _ _ _ _ _ _ (Act.put _ (some 38) _) _
                simp only [Act.put]
                refine wpAnyH_take (i := 14) (v := undef) rfl (by kernel_rfl) (by kernel_rfl) (by kernel_rfl) (fun _ _ _ h => h) (Or.inr ⟨by kernel_rfl, rfl⟩) hS ?_
                change wpAnyH _ _ _ _ _ _ _ (Act.put _ (some 39) _) _
                simp only [Act.put]
                refine wpAnyH_take (i := 15) (v := undef) rfl (by kernel_rfl) (by kernel_rfl) (by kernel_rfl) (fun _ _ _ h => h) (Or.inr ⟨by kernel_rfl, rfl⟩) hS ?_
                change wpAnyH _ _ _ _ _ _ _ (Act.put _ (some 40) _) _
                simp only [Act.put]
                refine wpAnyH_take (i := 16) (v := undef) rfl (by kernel_rfl) (by kernel_rfl) (by kernel_rfl) (fun _ _ _ h => h) (Or.inr ⟨by kernel_rfl, rfl⟩) hS ?_
                change wpAnyH _ _ _ _ _ _ _ (Act.put _ (some 41) _) _
                simp only [Act.put]
                refine wpAnyH_take (i := 17) (v := undef) rfl (by kernel_rfl) (by kernel_rfl) (by kernel_rfl) (fun _ _ _ h => h) (Or.inr ⟨by kernel_rfl, rfl⟩) hS ?_
                change wpAnyH _ _ _ _ _ _ _ (Act.put _ (some 42) _) _
                simp only [Act.put]
                refine wpAnyH_take (i := 18) (v := undef) rfl (by kernel_rfl) (by kernel_rfl) (by kernel_rfl) (fun _ _ _ h => h) (Or.inr ⟨by kernel_rfl, rfl⟩) hS ?_
                change wpAnyH _ _ _ _ _ _ _ (Act.put _ (some 43) _) _
                simp only [Act.put]
                refine wpAnyH_take (i := 19) (v := undef) rfl (by kernel_rfl) (by kernel_rfl) (by kernel_rfl) (fun _ _ _ h => h) (Or.inr ⟨by kernel_rfl, rfl⟩) hS ?_
                change wpAnyH _ _ _ _ _ _ _ (Act.put _ (some 44) _) _
                simp only [Act.put]
                refine wpAnyH_take (i := 20) (v := undef) rfl (by kernel_rfl) (by kernel_rfl) (by kernel_rfl) (fun _ _ _ h => h) (Or.inr ⟨by kernel_rfl, rfl⟩) hS ?_
                change wpAnyH _ _ _ _ _ _ _ (Act.put _ (some 45) _) _
                simp only [Act.put]
                refine wpAnyH_take (i := 21) (v := undef) rfl (by kernel_rfl) (by kernel_rfl) (by kernel_rfl) (fun _ _ _ h => h) (Or.inr ⟨by kernel_rfl, rfl⟩) hS ?_
                change wpAnyH _ _ _ _ _ _ _ (Act.put _ (some 46) _) _
                simp only [Act.put]
                refine wpAnyH_take (i := 22) (v := undef) rfl (by kernel_rfl) (by kernel_rfl) (by kernel_rfl) (fun _ _ _ h => h) (Or.inr ⟨by kernel_rfl, rfl⟩) hS ?_
                change wpAnyH _ _ _ _ _ _ _ (Act.put _ (some 47) _) _
                simp only [Act.put]
                refine wpAnyH_take (i := 23) (v := undef) rfl (by kernel_rfl) (by kernel_rfl) (by kernel_rfl) (fun _ _ _ h => h) (Or.inr ⟨by kernel_rfl, rfl⟩) hS ?_
                change wpAnyH _ _ _ _ _ _ _ (Act.put _ (some 48) _) _
                simp only [Act.put]
                refine wpAnyH_take (i := 24) (v := undef) rfl (by kernel_rfl) (by kernel_rfl) (by kernel_rfl) (fun _ _ _ h => h) (Or.inr ⟨by kernel_rfl, rfl⟩) hS ?_
                change wpAnyH _ _ _ _ _ _ _ (Act.put _ (some 49) _) _
                simp only [Act.put]
                refine wpAnyH_take (i := 25) (v := .bool false) rfl (by kernel_rfl) (by kernel_rfl) (by kernel_rfl) (fun _ _ _ h => h) (Or.inl ⟨by kernel_rfl, fun u hSw => (by go_simp)⟩) hS ?_
                change wpAnyH _ _ _ _ _ _ _ (Act.put _ (some 50) _) _
                simp only [Act.put]
                refine wpAnyH_take (i := 26) (v := .bool false) rfl (by kernel_rfl) (by kernel_rfl) (by kernel_rfl) (fun _ _ _ h => h) (Or.inl ⟨by kernel_rfl, fun u hSw => (by go_simp)⟩) hS ?_
                change wpAnyH _ _ _ _ _ _ _ (Act.put _ (some 51) _) _
                simp only [Act.put]
                refine wpAnyH_take (i := 27) (v := .bool false) rfl (by kernel_rfl) (by kernel_rfl) (by kernel_rfl) (fun _ _ _ h => h) (Or.inl ⟨by kernel_rfl, fun u hSw => (by go_simp)⟩) hS ?_
                change wpAnyH _ _ _ _ _ _ _ (Act.put _ (some 52) _) _
                simp only [Act.put]
                refine wpAnyH_take (i := 28) (v := .agg #[.slice (some ad) n c, .slice B m d]) rfl (by kernel_rfl) (by kernel_rfl) (by kernel_rfl) (fun _ _ _ h => h) (Or.inl ⟨by kernel_rfl, fun u hSw => (by have q := hSw.2.cell 0; have q1 := hSw.2.cell 1; go_simp)⟩) hS ?_
                change wpAnyH _ _ _ _ _ _ _ (Act.put _ (some 53) _) _
                simp only [Act.put]
                refine wpAnyH_take (i := 29) (v := .pointer (some ⟨w.heap.size, 0, none⟩)) rfl (by kernel_rfl) (by kernel_rfl) (by kernel_rfl) (fun _ _ _ h => h) (Or.inl ⟨by kernel_rfl, fun u hSw => (by go_simp)⟩) hS ?_
                change wpAnyH _ _ _ _ _ _ _ (Act.put _ (some 54) _) _
                simp only [Act.put]
                refine wpAnyH_take (i := 30) (v := .slice (some ad) n c) rfl (by kernel_rfl) (by kernel_rfl) (by kernel_rfl) (fun _ _ _ h => h) (Or.inl ⟨by kernel_rfl, fun u hSw => (by have q := hSw.2.cell 0; go_simp)⟩) hS ?_
                change wpAnyH _ _ _ _ _ _ _ (Act.put _ (some 55) _) _
                simp only [Act.put]
                refine wpAnyH_take (i := 31) (v := .int .i64 (i : Int)) rfl (by kernel_rfl) (by kernel_rfl) (by kernel_rfl) (fun _ _ _ h => h) (Or.inl ⟨by kernel_rfl, fun u hSw => (by go_simp)⟩) hS ?_
                change wpAnyH _ _ _ _ _ _ _ (Act.put _ (some 56) _) _
                simp only [Act.put]
                refine wpAnyH_take (i := 32) (v := .pointer (some (ad.add (i * 4)))) rfl (by kernel_rfl) (by kernel_rfl) (by kernel_rfl) (fun _ _ _ h => h) (Or.inl ⟨by kernel_rfl, fun u hSw => (by go_simp)⟩) hS ?_
                change wpAnyH _ _ _ _ _ _ _ (Act.put _ (some 57) _) _
                simp only [Act.put]
                refine wpAnyH_take (i := 33) (v := .pointer (some (ad.add (i * 4)))) rfl (by kernel_rfl) (by kernel_rfl) (by kernel_rfl) (fun _ _ _ h => h) (Or.inl ⟨by kernel_rfl, fun u hSw => (by go_simp)⟩) hS ?_
                change wpAnyH _ _ _ _ _ _ _ (Act.put _ (some 58) _) _
                simp only [Act.put]
                refine wpAnyH_take (i := 34) (v := .int .i64 x1) rfl (by kernel_rfl) (by kernel_rfl) (by kernel_rfl) (fun _ _ _ h => h) (Or.inl ⟨by kernel_rfl, fun u hSw => (by have q := (HX.out u hSw.1).1; go_simp)⟩) hS ?_
                change wpAnyH _ _ _ _ _ _ _ (Act.put _ (some 59) _) _
                simp only [Act.put]
                refine wpAnyH_ready (rs := [35]) (by kernel_rfl) (by simp) ?_
                refine AllReadyH.cons rfl (fun K hK => ?_) AllReadyH.nil
                go_simp
                refine (HOf.out _ GB).mono ?_
                rintro e1 w2 ⟨A1, c1, rfl, hc1, o1, h9⟩
                rw [HQ.out] at hc1 ⊢
                replace KB := KB.below h9 KB.lt
                replace GB := GB.trans (h9.mono GB.size)
                clear h9 o1
                refine hK.out _ _ ⟨GB, KB⟩ (fun hS => ?_)
                clear hK K
                refine wpAnyH_take (i := 36) (v := .int .i64 (Q : Int)) rfl (by kernel_rfl) (by kernel_rfl) (by kernel_rfl) (fun _ _ _ h => h) (Or.inl ⟨by kernel_rfl, fun u hSw => (by go_simp)⟩) hS ?_
                change wpAnyH _ _ _ _ _ _ _ (Act.put _ (some 61) _) _
                simp only [Act.put]
                refine wpAnyH_take (i := 37) (v := .bool false) rfl (by kernel_rfl) (by kernel_rfl) (by kernel_rfl) (fun _ _ _ h => h) (Or.inl ⟨by kernel_rfl, fun u hSw => (by go_simp)⟩) hS ?_
                change wpAnyH _ _ _ _ _ _ _ (Act.put _ (some 62) _) _
                simp only [Act.put]
                refine wpAnyH_take (i := 38) (v := .bool false) rfl (by kernel_rfl) (by kernel_rfl) (by kernel_rfl) (fun _ _ _ h => h) (Or.inl ⟨by kernel_rfl, fun u hSw => (by go_simp)⟩) hS ?_
                change wpAnyH _ _ _ _ _ _ _ (Act.put _ (some 63) _) _
                simp only [Act.put]
                refine wpAnyH_done (by kernel_rfl) ?_ _
                clear hS
                go_simp
                have HB := Lib.hid (And.intro KB GB)
                clear GB KB
                go_wp2
                go_roundw
                case rel => exact ⟨i + 1, by omega, by go_num, HN, HB.out.1, HB.out.2⟩
                case measure => simp [intOf] <;> omega
              · have HV := Lib.hid (hno (by rw [hok]; simp [h8]))
                have q8 : decide ((8 : Int) < (Q : Int)) = true := decide_eq_true (by omega)
                clear hok hno hr hi h8
                go_upto_region 6 with fail
                replace GB := GB.drew
                replace KB : Blk wr.drew _ _ _ := KB
                refine wp_region_held_drew (S := fun u => Below w.heap.size w u ∧ Blk u w.heap.size 25 #[.slice (some ad) n c, .slice B m d]) (by kernel_rfl) ⟨GB, KB⟩ (fun hS => ?_)
                generalize wr.drew = V at GB KB hS ⊢
                refine wpAnyH_take (i := 0) (v := .pointer (some ⟨w.heap.size, 0, none⟩)) rfl (by kernel_rfl) (by kernel_rfl) (by kernel_rfl) (fun _ _ _ h => h) (Or.inl ⟨by kernel_rfl, fun u hSw => (by go_simp)⟩) hS ?_
                change wpAnyH _ _ _ _ _ _ _ (Act.put _ (some 25) _) _
                simp only [Act.put]
                refine wpAnyH_take (i := 1) (v := .slice (some ad) n c) rfl (by kernel_rfl) (by kernel_rfl) (by kernel_rfl) (fun _ _ _ h => h) (Or.inl ⟨by kernel_rfl, fun u hSw => (by have q := hSw.2.cell 0; go_simp)⟩) hS ?_
                change wpAnyH _ _ _ _ _ _ _ (Act.put _ (some 26) _) _
                simp only [Act.put]
                refine wpAnyH_take (i := 2) (v := .int .i64 (i : Int)) rfl (by kernel_rfl) (by kernel_rfl) (by kernel_rfl) (fun _ _ _ h => h) (Or.inl ⟨by kernel_rfl, fun u hSw => (by go_simp)⟩) hS ?_
                change wpAnyH _ _ _ _ _ _ _ (Act.put _ (some 27) _) _
                simp only [Act.put]
                refine wpAnyH_take (i := 3) (v := .pointer (some (ad.add (i * 4)))) rfl (by kernel_rfl) (by kernel_rfl) (by kernel_rfl) (fun _ _ _ h => h) (Or.inl ⟨by kernel_rfl, fun u hSw => (by go_simp)⟩) hS ?_
                change wpAnyH _ _ _ _ _ _ _ (Act.put _ (some 28) _) _
                simp only [Act.put]
                refine wpAnyH_take (i := 4) (v := .agg #[.int .i64 x1, .int .i64 x2, .int .i64 x3, .int .i64 x4]) rfl (by kernel_rfl) (by kernel_rfl) (by kernel_rfl) (fun _ _ _ h => h) (Or.inl ⟨by kernel_rfl, fun u hSw => (by obtain ⟨q0, q1, q2, q3⟩ := HX.out u hSw.1; go_simp)⟩) hS ?_
                change wpAnyH _ _ _ _ _ _ _ (Act.put _ (some 29) _) _
                simp only [Act.put]
                refine wpAnyH_ready (rs := [5]) (by kernel_rfl) (by simp) ?_
                refine AllReadyH.cons rfl (fun K hK => ?_) AllReadyH.nil
                go_simp
                refine (HRD.out _).mono ?_
                rintro e1 w1 ⟨rfl, h9⟩
                replace KB := KB.below h9 KB.lt
                replace GB := GB.trans (h9.mono GB.size)
                clear h9
                refine hK.out _ _ ⟨GB, KB⟩ (fun hS => ?_)
                clear hK K
                refine wpAnyH_take (i := 6) (v := .bool false) rfl (by kernel_rfl) (by kernel_rfl) (by kernel_rfl) (fun _ _ _ h => h) (Or.inl ⟨by kernel_rfl, fun u hSw => (by go_simp)⟩) hS ?_
                change wpAnyH _ _ _ _ _ _ _ (Act.put _ (some 31) _) _
                simp only [Act.put]
                refine wpAnyH_take (i := 7) (v := .bool false) rfl (by kernel_rfl) (by kernel_rfl) (by kernel_rfl) (fun _ _ _ h => h) (Or.inl ⟨by kernel_rfl, fun u hSw => (by go_simp)⟩) hS ?_
                change wpAnyH _ _ _ _ _ _ _ (Act.put _ (some 32) _) _
                simp only [Act.put]
                refine wpAnyH_take (i := 8) (v := .int .i64 (i : Int)) rfl (by kernel_rfl) (by kernel_rfl) (by kernel_rfl) (fun _ _ _ h => h) (Or.inl ⟨by kernel_rfl, fun u hSw => (by go_simp)⟩) hS ?_
                change wpAnyH _ _ _ _ _ _ _ (Act.put _ (some 33) _) _
                simp only [Act.put]
                refine wpAnyH_take (i := 9) (v := .bool false) rfl (by kernel_rfl) (by kernel_rfl) (by kernel_rfl) (fun _ _ _ h => h) (Or.inl ⟨by kernel_rfl, fun u hSw => (by go_simp; exact HIp.out)⟩) hS ?_
                change wpAnyH _ _ _ _ _ _ _ (Act.put _ (some 34) _) _
                simp only [Act.put]
                refine wpAnyH_take (i := 10) (v := .bool false) rfl (by kernel_rfl) (by kernel_rfl) (by kernel_rfl) (fun _ _ _ h => h) (Or.inl ⟨by kernel_rfl, fun u hSw => (by go_simp)⟩) hS ?_
                change wpAnyH _ _ _ _ _ _ _ (Act.put _ (some 35) _) _
                simp only [Act.put]
                refine wpAnyH_take (i := 11) (v := undef) rfl (by kernel_rfl) (by kernel_rfl) (by kernel_rfl) (fun _ _ _ h => h) (Or.inr ⟨by kernel_rfl, rfl⟩) hS ?_
                change wpAnyH _ _ _ _ _ _ _ (Act.put _ (some 36) _) _
                simp only [Act.put]
                refine wpAnyH_take (i := 12) (v := undef) rfl (by kernel_rfl) (by kernel_rfl) (by kernel_rfl) (fun _ _ _ h => h) (Or.inr ⟨by kernel_rfl, rfl⟩) hS ?_
                change wpAnyH _ _ _ _ _ _ _ (Act.put _ (some 37) _) _
                simp only [Act.put]
                refine wpAnyH_take (i := 13) (v := undef) rfl (by kernel_rfl) (by kernel_rfl) (by kernel_rfl) (fun _ _ _ h => h) (Or.inr ⟨by kernel_rfl, rfl⟩) hS ?_
                change wpAnyH _ _ _ _ _ _ _ (Act.put _ (some 38) _) _
                simp only [Act.put]
                refine wpAnyH_take (i := 14) (v := undef) rfl (by kernel_rfl) (by kernel_rfl) (by kernel_rfl) (fun _ _ _ h => h) (Or.inr ⟨by kernel_rfl, rfl⟩) hS ?_
                change wpAnyH _ _ _ _ _ _ _ (Act.put _ (some 39) _) _
                simp only [Act.put]
                refine wpAnyH_take (i := 15) (v := undef) rfl (by kernel_rfl) (by kernel_rfl) (by kernel_rfl) (fun _ _ _ h => h) (Or.inr ⟨by kernel_rfl, rfl⟩) hS ?_
                change wpAnyH _ _ _ _ _ _ _ (Act.put _ (some 40) _) _
                simp only [Act.put]
                refine wpAnyH_take (i := 16) (v := undef) rfl (by kernel_rfl) (by kernel_rfl) (by kernel_rfl) (fun _ _ _ h => h) (Or.inr ⟨by kernel_rfl, rfl⟩) hS ?_
                change wpAnyH _ _ _ _ _ _ _ (Act.put _ (some 41) _) _
                simp only [Act.put]
                refine wpAnyH_take (i := 17) (v := undef) rfl (by kernel_rfl) (by kernel_rfl) (by kernel_rfl) (fun _ _ _ h => h) (Or.inr ⟨by kernel_rfl, rfl⟩) hS ?_
                change wpAnyH _ _ _ _ _ _ _ (Act.put _ (some 42) _) _
                simp only [Act.put]
                refine wpAnyH_take (i := 18) (v := undef) rfl (by kernel_rfl) (by kernel_rfl) (by kernel_rfl) (fun _ _ _ h => h) (Or.inr ⟨by kernel_rfl, rfl⟩) hS ?_
                change wpAnyH _ _ _ _ _ _ _ (Act.put _ (some 43) _) _
                simp only [Act.put]
                refine wpAnyH_take (i := 19) (v := undef) rfl (by kernel_rfl) (by kernel_rfl) (by kernel_rfl) (fun _ _ _ h => h) (Or.inr ⟨by kernel_rfl, rfl⟩) hS ?_
                change wpAnyH _ _ _ _ _ _ _ (Act.put _ (some 44) _) _
                simp only [Act.put]
                refine wpAnyH_take (i := 20) (v := undef) rfl (by kernel_rfl) (by kernel_rfl) (by kernel_rfl) (fun _ _ _ h => h) (Or.inr ⟨by kernel_rfl, rfl⟩) hS ?_
                change wpAnyH _ _ _ _ _ _ _ (Act.put _ (some 45) _) _
                simp only [Act.put]
                refine wpAnyH_take (i := 21) (v := undef) rfl (by kernel_rfl) (by kernel_rfl) (by kernel_rfl) (fun _ _ _ h => h) (Or.inr ⟨by kernel_rfl, rfl⟩) hS ?_
                change wpAnyH _ _ _ _ _ _ _ (Act.put _ (some 46) _) _
                simp only [Act.put]
                refine wpAnyH_take (i := 22) (v := undef) rfl (by kernel_rfl) (by kernel_rfl) (by kernel_rfl) (fun _ _ _ h => h) (Or.inr ⟨by kernel_rfl, rfl⟩) hS ?_
                change wpAnyH _ _ _ _ _ _ _ (Act.put _ (some 47) _) _
                simp only [Act.put]
                refine wpAnyH_take (i := 23) (v := undef) rfl (by kernel_rfl) (by kernel_rfl) (by kernel_rfl) (fun _ _ _ h => h) (Or.inr ⟨by kernel_rfl, rfl⟩) hS ?_
                change wpAnyH _ _ _ _ _ _ _ (Act.put _ (some 48) _) _
                simp only [Act.put]
                refine wpAnyH_take (i := 24) (v := undef) rfl (by kernel_rfl) (by kernel_rfl) (by kernel_rfl) (fun _ _ _ h => h) (Or.inr ⟨by kernel_rfl, rfl⟩) hS ?_
                change wpAnyH _ _ _ _ _ _ _ (Act.put _ (some 49) _) _
                simp only [Act.put]
                refine wpAnyH_take (i := 25) (v := .bool false) rfl (by kernel_rfl) (by kernel_rfl) (by kernel_rfl) (fun _ _ _ h => h) (Or.inl ⟨by kernel_rfl, fun u hSw => (by go_simp)⟩) hS ?_
                change wpAnyH _ _ _ _ _ _ _ (Act.put _ (some 50) _) _
                simp only [Act.put]
                refine wpAnyH_take (i := 26) (v := .bool false) rfl (by kernel_rfl) (by kernel_rfl) (by kernel_rfl) (fun _ _ _ h => h) (Or.inl ⟨by kernel_rfl, fun u hSw => (by go_simp)⟩) hS ?_
                change wpAnyH _ _ _ _ _ _ _ (Act.put _ (some 51) _) _
                simp only [Act.put]
                refine wpAnyH_take (i := 27) (v := .bool false) rfl (by kernel_rfl) (by kernel_rfl) (by kernel_rfl) (fun _ _ _ h => h) (Or.inl ⟨by kernel_rfl, fun u hSw => (by go_simp)⟩) hS ?_
                change wpAnyH _ _ _ _ _ _ _ (Act.put _ (some 52) _) _
                simp only [Act.put]
                refine wpAnyH_take (i := 28) (v := .agg #[.slice (some ad) n c, .slice B m d]) rfl (by kernel_rfl) (by kernel_rfl) (by kernel_rfl) (fun _ _ _ h => h) (Or.inl ⟨by kernel_rfl, fun u hSw => (by have q := hSw.2.cell 0; have q1 := hSw.2.cell 1; go_simp)⟩) hS ?_
                change wpAnyH _ _ _ _ _ _ _ (Act.put _ (some 53) _) _
                simp only [Act.put]
                refine wpAnyH_take (i := 29) (v := .pointer (some ⟨w.heap.size, 0, none⟩)) rfl (by kernel_rfl) (by kernel_rfl) (by kernel_rfl) (fun _ _ _ h => h) (Or.inl ⟨by kernel_rfl, fun u hSw => (by go_simp)⟩) hS ?_
                change wpAnyH _ _ _ _ _ _ _ (Act.put _ (some 54) _) _
                simp only [Act.put]
                refine wpAnyH_take (i := 30) (v := .slice (some ad) n c) rfl (by kernel_rfl) (by kernel_rfl) (by kernel_rfl) (fun _ _ _ h => h) (Or.inl ⟨by kernel_rfl, fun u hSw => (by have q := hSw.2.cell 0; go_simp)⟩) hS ?_
                change wpAnyH _ _ _ _ _ _ _ (Act.put _ (some 55) _) _
                simp only [Act.put]
                refine wpAnyH_take (i := 31) (v := .int .i64 (i : Int)) rfl (by kernel_rfl) (by kernel_rfl) (by kernel_rfl) (fun _ _ _ h => h) (Or.inl ⟨by kernel_rfl, fun u hSw => (by go_simp)⟩) hS ?_
                change wpAnyH _ _ _ _ _ _ _ (Act.put _ (some 56) _) _
                simp only [Act.put]
                refine wpAnyH_take (i := 32) (v := .pointer (some (ad.add (i * 4)))) rfl (by kernel_rfl) (by kernel_rfl) (by kernel_rfl) (fun _ _ _ h => h) (Or.inl ⟨by kernel_rfl, fun u hSw => (by go_simp)⟩) hS ?_
                change wpAnyH _ _ _ _ _ _ _ (Act.put _ (some 57) _) _
                simp only [Act.put]
                refine wpAnyH_take (i := 33) (v := .pointer (some (ad.add (i * 4)))) rfl (by kernel_rfl) (by kernel_rfl) (by kernel_rfl) (fun _ _ _ h => h) (Or.inl ⟨by kernel_rfl, fun u hSw => (by go_simp)⟩) hS ?_
                change wpAnyH _ _ _ _ _ _ _ (Act.put _ (some 58) _) _
                simp only [Act.put]
                refine wpAnyH_take (i := 34) (v := .int .i64 x1) rfl (by kernel_rfl) (by kernel_rfl) (by kernel_rfl) (fun _ _ _ h => h) (Or.inl ⟨by kernel_rfl, fun u hSw => (by have q := (HX.out u hSw.1).1; go_simp)⟩) hS ?_
                change wpAnyH _ _ _ _ _ _ _ (Act.put _ (some 59) _) _
                simp only [Act.put]
                refine wpAnyH_ready (rs := [35]) (by kernel_rfl) (by simp) ?_
                refine AllReadyH.cons rfl (fun K hK => ?_) AllReadyH.nil
                go_simp
                refine (HOf.out _ GB).mono ?_
                rintro e1 w2 ⟨A1, c1, rfl, hc1, o1, h9⟩
                rw [HQ.out] at hc1 ⊢
                replace KB := KB.below h9 KB.lt
                replace GB := GB.trans (h9.mono GB.size)
                clear h9 o1
                refine hK.out _ _ ⟨GB, KB⟩ (fun hS => ?_)
                clear hK K
                refine wpAnyH_take (i := 36) (v := .int .i64 (Q : Int)) rfl (by kernel_rfl) (by kernel_rfl) (by kernel_rfl) (fun _ _ _ h => h) (Or.inl ⟨by kernel_rfl, fun u hSw => (by go_simp)⟩) hS ?_
                change wpAnyH _ _ _ _ _ _ _ (Act.put _ (some 61) _) _
                simp only [Act.put]
                refine wpAnyH_take (i := 37) (v := .bool true) rfl (by kernel_rfl) (by kernel_rfl) (by kernel_rfl) (fun _ _ _ h => h) (Or.inl ⟨by kernel_rfl, fun u hSw => (by go_simp)⟩) hS ?_
                change wpAnyH _ _ _ _ _ _ _ (Act.put _ (some 62) _) _
                simp only [Act.put]
                refine wpAnyH_take (i := 38) (v := .bool true) rfl (by kernel_rfl) (by kernel_rfl) (by kernel_rfl) (fun _ _ _ h => h) (Or.inl ⟨by kernel_rfl, fun u hSw => (by go_simp)⟩) hS ?_
                change wpAnyH _ _ _ _ _ _ _ (Act.put _ (some 63) _) _
                simp only [Act.put]
                refine wpAnyH_done (by kernel_rfl) ?_ _
                clear hS
                go_simp
                have HB := Lib.hid GB
                clear GB KB
                go_wp2
                go_ret
                exact ⟨retB HV.out.symm, HB.out⟩
            · have ip : decide ((0 : Int) < (i : Int)) = true := decide_eq_true (by omega)
              have HIp : Hid (0 < i) := Lib.hid (by omega)
              obtain ⟨j, hj⟩ : ∃ j, i = j + 1 := ⟨i - 1, by omega⟩
              have ij : (i : Int) - 1 = (j : Int) := by omega
              have HJw : Hid (IntKind.i64.wrap (j : Int) = (j : Int)) := Lib.hid (by rw [IntKind.wrap_i64]; omega)
              have j0 : (0 : Int) ≤ (j : Int) := by omega
              have j1 : (j : Int) < (n : Int) := by omega
              obtain ⟨⟨p1, p2, p3, p4⟩, hp⟩ := elem_at (l := ds) (k := j) (by rw [HL.out.1]; omega)
              have HP : Hid (∀ u, Below w.heap.size w u → u.cell? (ad.add (j * 4)) = some (.int .i64 p1)) := Lib.hid (fun u h => by
                obtain ⟨ad2, e, _, q, _⟩ := dom_at (HR.out.doms.below h) hp
                injection e with e
                subst e
                exact q)
              rw [show i - 1 = j by omega, dgetD hp] at hok
              clear hp
              by_cases hlt2 : p1 < x1
              · have b2 : decide (x1 ≤ p1) = false := decide_eq_false (by omega)
                by_cases h8 : Q ≤ 8
                · have HN := Lib.hid (allK_step HA.out (by rw [hok, hr]; simp [hlt2, h8]))
                  have q8 : decide ((8 : Int) < (Q : Int)) = false := decide_eq_false (by omega)
                  clear hok hno hr hi h8 hlt2 hj
                  go_upto_region 6 with fail
                  replace GB := GB.drew
                  replace KB : Blk wr.drew _ _ _ := KB
                  refine wp_region_held_drew (S := fun u => Below w.heap.size w u ∧ Blk u w.heap.size 25 #[.slice (some ad) n c, .slice B m d]) (by kernel_rfl) ⟨GB, KB⟩ (fun hS => ?_)
                  generalize wr.drew = V at GB KB hS ⊢
                  refine wpAnyH_take (i := 0) (v := .pointer (some ⟨w.heap.size, 0, none⟩)) rfl (by kernel_rfl) (by kernel_rfl) (by kernel_rfl) (fun _ _ _ h => h) (Or.inl ⟨by kernel_rfl, fun u hSw => (by go_simp)⟩) hS ?_
                  change wpAnyH _ _ _ _ _ _ _ (Act.put _ (some 25) _) _
                  simp only [Act.put]
                  refine wpAnyH_take (i := 1) (v := .slice (some ad) n c) rfl (by kernel_rfl) (by kernel_rfl) (by kernel_rfl) (fun _ _ _ h => h) (Or.inl ⟨by kernel_rfl, fun u hSw => (by have q := hSw.2.cell 0; go_simp)⟩) hS ?_
                  change wpAnyH _ _ _ _ _ _ _ (Act.put _ (some 26) _) _
                  simp only [Act.put]
                  refine wpAnyH_take (i := 2) (v := .int .i64 (i : Int)) rfl (by kernel_rfl) (by kernel_rfl) (by kernel_rfl) (fun _ _ _ h => h) (Or.inl ⟨by kernel_rfl, fun u hSw => (by go_simp)⟩) hS ?_
                  change wpAnyH _ _ _ _ _ _ _ (Act.put _ (some 27) _) _
                  simp only [Act.put]
                  refine wpAnyH_take (i := 3) (v := .pointer (some (ad.add (i * 4)))) rfl (by kernel_rfl) (by kernel_rfl) (by kernel_rfl) (fun _ _ _ h => h) (Or.inl ⟨by kernel_rfl, fun u hSw => (by go_simp)⟩) hS ?_
                  change wpAnyH _ _ _ _ _ _ _ (Act.put _ (some 28) _) _
                  simp only [Act.put]
                  refine wpAnyH_take (i := 4) (v := .agg #[.int .i64 x1, .int .i64 x2, .int .i64 x3, .int .i64 x4]) rfl (by kernel_rfl) (by kernel_rfl) (by kernel_rfl) (fun _ _ _ h => h) (Or.inl ⟨by kernel_rfl, fun u hSw => (by obtain ⟨q0, q1, q2, q3⟩ := HX.out u hSw.1; go_simp)⟩) hS ?_
                  change wpAnyH _ _ _ _ _ _ _ (Act.put _ (some 29) _) _
                  simp only [Act.put]
                  refine wpAnyH_ready (rs := [5]) (by kernel_rfl) (by simp) ?_
                  refine AllReadyH.cons rfl (fun K hK => ?_) AllReadyH.nil
                  go_simp
                  refine (HRD.out _).mono ?_
                  rintro e1 w1 ⟨rfl, h9⟩
                  replace KB := KB.below h9 KB.lt
                  replace GB := GB.trans (h9.mono GB.size)
                  clear h9
                  refine hK.out _ _ ⟨GB, KB⟩ (fun hS => ?_)
                  clear hK K
                  refine wpAnyH_take (i := 6) (v := .bool false) rfl (by kernel_rfl) (by kernel_rfl) (by kernel_rfl) (fun _ _ _ h => h) (Or.inl ⟨by kernel_rfl, fun u hSw => (by go_simp)⟩) hS ?_
                  change wpAnyH _ _ _ _ _ _ _ (Act.put _ (some 31) _) _
                  simp only [Act.put]
                  refine wpAnyH_take (i := 7) (v := .bool false) rfl (by kernel_rfl) (by kernel_rfl) (by kernel_rfl) (fun _ _ _ h => h) (Or.inl ⟨by kernel_rfl, fun u hSw => (by go_simp)⟩) hS ?_
                  change wpAnyH _ _ _ _ _ _ _ (Act.put _ (some 32) _) _
                  simp only [Act.put]
                  refine wpAnyH_take (i := 8) (v := .int .i64 (i : Int)) rfl (by kernel_rfl) (by kernel_rfl) (by kernel_rfl) (fun _ _ _ h => h) (Or.inl ⟨by kernel_rfl, fun u hSw => (by go_simp)⟩) hS ?_
                  change wpAnyH _ _ _ _ _ _ _ (Act.put _ (some 33) _) _
                  simp only [Act.put]
                  refine wpAnyH_take (i := 9) (v := .bool true) rfl (by kernel_rfl) (by kernel_rfl) (by kernel_rfl) (fun _ _ _ h => h) (Or.inl ⟨by kernel_rfl, fun u hSw => (by go_simp; exact HIp.out)⟩) hS ?_
                  change wpAnyH _ _ _ _ _ _ _ (Act.put _ (some 34) _) _
                  simp only [Act.put]
                  refine wpAnyH_take (i := 10) (v := .bool true) rfl (by kernel_rfl) (by kernel_rfl) (by kernel_rfl) (fun _ _ _ h => h) (Or.inl ⟨by kernel_rfl, fun u hSw => (by go_simp)⟩) hS ?_
                  change wpAnyH _ _ _ _ _ _ _ (Act.put _ (some 35) _) _
                  simp only [Act.put]
                  refine wpAnyH_take (i := 11) (v := .pointer (some ⟨w.heap.size, 0, none⟩)) rfl (by kernel_rfl) (by kernel_rfl) (by kernel_rfl) (fun _ _ _ h => h) (Or.inl ⟨by kernel_rfl, fun u hSw => (by go_simp)⟩) hS ?_
                  change wpAnyH _ _ _ _ _ _ _ (Act.put _ (some 36) _) _
                  simp only [Act.put]
                  refine wpAnyH_take (i := 12) (v := .slice (some ad) n c) rfl (by kernel_rfl) (by kernel_rfl) (by kernel_rfl) (fun _ _ _ h => h) (Or.inl ⟨by kernel_rfl, fun u hSw => (by have q := hSw.2.cell 0; go_simp)⟩) hS ?_
                  change wpAnyH _ _ _ _ _ _ _ (Act.put _ (some 37) _) _
                  simp only [Act.put]
                  refine wpAnyH_take (i := 13) (v := .int .i64 (i : Int)) rfl (by kernel_rfl) (by kernel_rfl) (by kernel_rfl) (fun _ _ _ h => h) (Or.inl ⟨by kernel_rfl, fun u hSw => (by go_simp)⟩) hS ?_
                  change wpAnyH _ _ _ _ _ _ _ (Act.put _ (some 38) _) _
                  simp only [Act.put]
                  refine wpAnyH_take (i := 14) (v := .int .i64 (j : Int)) rfl (by kernel_rfl) (by kernel_rfl) (by kernel_rfl) (fun _ _ _ h => h) (Or.inl ⟨by kernel_rfl, fun u hSw => (by go_simp; exact HJw.out)⟩) hS ?_
                  change wpAnyH _ _ _ _ _ _ _ (Act.put _ (some 39) _) _
                  simp only [Act.put]
                  refine wpAnyH_take (i := 15) (v := .pointer (some (ad.add (j * 4)))) rfl (by kernel_rfl) (by kernel_rfl) (by kernel_rfl) (fun _ _ _ h => h) (Or.inl ⟨by kernel_rfl, fun u hSw => (by go_simp)⟩) hS ?_
                  change wpAnyH _ _ _ _ _ _ _ (Act.put _ (some 40) _) _
                  simp only [Act.put]
                  refine wpAnyH_take (i := 16) (v := .pointer (some (ad.add (j * 4)))) rfl (by kernel_rfl) (by kernel_rfl) (by kernel_rfl) (fun _ _ _ h => h) (Or.inl ⟨by kernel_rfl, fun u hSw => (by go_simp)⟩) hS ?_
                  change wpAnyH _ _ _ _ _ _ _ (Act.put _ (some 41) _) _
                  simp only [Act.put]
                  refine wpAnyH_take (i := 17) (v := .int .i64 p1) rfl (by kernel_rfl) (by kernel_rfl) (by kernel_rfl) (fun _ _ _ h => h) (Or.inl ⟨by kernel_rfl, fun u hSw => (by have q := HP.out u hSw.1; go_simp)⟩) hS ?_
                  change wpAnyH _ _ _ _ _ _ _ (Act.put _ (some 42) _) _
                  simp only [Act.put]
                  refine wpAnyH_take (i := 18) (v := .pointer (some ⟨w.heap.size, 0, none⟩)) rfl (by kernel_rfl) (by kernel_rfl) (by kernel_rfl) (fun _ _ _ h => h) (Or.inl ⟨by kernel_rfl, fun u hSw => (by go_simp)⟩) hS ?_
                  change wpAnyH _ _ _ _ _ _ _ (Act.put _ (some 43) _) _
                  simp only [Act.put]
                  refine wpAnyH_take (i := 19) (v := .slice (some ad) n c) rfl (by kernel_rfl) (by kernel_rfl) (by kernel_rfl) (fun _ _ _ h => h) (Or.inl ⟨by kernel_rfl, fun u hSw => (by have q := hSw.2.cell 0; go_simp)⟩) hS ?_
                  change wpAnyH _ _ _ _ _ _ _ (Act.put _ (some 44) _) _
                  simp only [Act.put]
                  refine wpAnyH_take (i := 20) (v := .int .i64 (i : Int)) rfl (by kernel_rfl) (by kernel_rfl) (by kernel_rfl) (fun _ _ _ h => h) (Or.inl ⟨by kernel_rfl, fun u hSw => (by go_simp)⟩) hS ?_
                  change wpAnyH _ _ _ _ _ _ _ (Act.put _ (some 45) _) _
                  simp only [Act.put]
                  refine wpAnyH_take (i := 21) (v := .pointer (some (ad.add (i * 4)))) rfl (by kernel_rfl) (by kernel_rfl) (by kernel_rfl) (fun _ _ _ h => h) (Or.inl ⟨by kernel_rfl, fun u hSw => (by go_simp)⟩) hS ?_
                  change wpAnyH _ _ _ _ _ _ _ (Act.put _ (some 46) _) _
                  simp only [Act.put]
                  refine wpAnyH_take (i := 22) (v := .pointer (some (ad.add (i * 4)))) rfl (by kernel_rfl) (by kernel_rfl) (by kernel_rfl) (fun _ _ _ h => h) (Or.inl ⟨by kernel_rfl, fun u hSw => (by go_simp)⟩) hS ?_
                  change wpAnyH _ _ _ _ _ _ _ (Act.put _ (some 47) _) _
                  simp only [Act.put]
                  refine wpAnyH_take (i := 23) (v := .int .i64 x1) rfl (by kernel_rfl) (by kernel_rfl) (by kernel_rfl) (fun _ _ _ h => h) (Or.inl ⟨by kernel_rfl, fun u hSw => (by have q := (HX.out u hSw.1).1; go_simp)⟩) hS ?_
                  change wpAnyH _ _ _ _ _ _ _ (Act.put _ (some 48) _) _
                  simp only [Act.put]
                  refine wpAnyH_take (i := 24) (v := .bool false) rfl (by kernel_rfl) (by kernel_rfl) (by kernel_rfl) (fun _ _ _ h => h) (Or.inl ⟨by kernel_rfl, fun u hSw => (by go_simp)⟩) hS ?_
                  change wpAnyH _ _ _ _ _ _ _ (Act.put _ (some 49) _) _
                  simp only [Act.put]
                  refine wpAnyH_take (i := 25) (v := .bool false) rfl (by kernel_rfl) (by kernel_rfl) (by kernel_rfl) (fun _ _ _ h => h) (Or.inl ⟨by kernel_rfl, fun u hSw => (by go_simp)⟩) hS ?_
                  change wpAnyH _ _ _ _ _ _ _ (Act.put _ (some 50) _) _
                  simp only [Act.put]
                  refine wpAnyH_take (i := 26) (v := .bool false) rfl (by kernel_rfl) (by kernel_rfl) (by kernel_rfl) (fun _ _ _ h => h) (Or.inl ⟨by kernel_rfl, fun u hSw => (by go_simp)⟩) hS ?_
                  change wpAnyH _ _ _ _ _ _ _ (Act.put _ (some 51) _) _
                  simp only [Act.put]
                  refine wpAnyH_take (i := 27) (v := .bool false) rfl (by kernel_rfl) (by kernel_rfl) (by kernel_rfl) (fun _ _ _ h => h) (Or.inl ⟨by kernel_rfl, fun u hSw => (by go_simp)⟩) hS ?_
                  change wpAnyH _ _ _ _ _ _ _ (Act.put _ (some 52) _) _
                  simp only [Act.put]
                  refine wpAnyH_take (i := 28) (v := .agg #[.slice (some ad) n c, .slice B m d]) rfl (by kernel_rfl) (by kernel_rfl) (by kernel_rfl) (fun _ _ _ h => h) (Or.inl ⟨by kernel_rfl, fun u hSw => (by have q := hSw.2.cell 0; have q1 := hSw.2.cell 1; go_simp)⟩) hS ?_
                  change wpAnyH _ _ _ _ _ _ _ (Act.put _ (some 53) _) _
                  simp only [Act.put]
                  refine wpAnyH_take (i := 29) (v := .pointer (some ⟨w.heap.size, 0, none⟩)) rfl (by kernel_rfl) (by kernel_rfl) (by kernel_rfl) (fun _ _ _ h => h) (Or.inl ⟨by kernel_rfl, fun u hSw => (by go_simp)⟩) hS ?_
                  change wpAnyH _ _ _ _ _ _ _ (Act.put _ (some 54) _) _
                  simp only [Act.put]
                  refine wpAnyH_take (i := 30) (v := .slice (some ad) n c) rfl (by kernel_rfl) (by kernel_rfl) (by kernel_rfl) (fun _ _ _ h => h) (Or.inl ⟨by kernel_rfl, fun u hSw => (by have q := hSw.2.cell 0; go_simp)⟩) hS ?_
                  change wpAnyH _ _ _ _ _ _ _ (Act.put _ (some 55) _) _
                  simp only [Act.put]
                  refine wpAnyH_take (i := 31) (v := .int .i64 (i : Int)) rfl (by kernel_rfl) (by kernel_rfl) (by kernel_rfl) (fun _ _ _ h => h) (Or.inl ⟨by kernel_rfl, fun u hSw => (by go_simp)⟩) hS ?_
                  change wpAnyH _ _ _ _ _ _ _ (Act.put _ (some 56) _) _
                  simp only [Act.put]
                  refine wpAnyH_take (i := 32) (v := .pointer (some (ad.add (i * 4)))) rfl (by kernel_rfl) (by kernel_rfl) (by kernel_rfl) (fun _ _ _ h => h) (Or.inl ⟨by kernel_rfl, fun u hSw => (by go_simp)⟩) hS ?_
                  change wpAnyH _ _ _ _ _ _ _ (Act.put _ (some 57) _) _
                  simp only [Act.put]
                  refine wpAnyH_take (i := 33) (v := .pointer (some (ad.add (i * 4)))) rfl (by kernel_rfl) (by kernel_rfl) (by kernel_rfl) (fun _ _ _ h => h) (Or.inl ⟨by kernel_rfl, fun u hSw => (by go_simp)⟩) hS ?_
                  change wpAnyH _ _ _ _ _ _ _ (Act.put _ (some 58) _) _
                  simp only [Act.put]
                  refine wpAnyH_take (i := 34) (v := .int .i64 x1) rfl (by kernel_rfl) (by kernel_rfl) (by kernel_rfl) (fun _ _ _ h => h) (Or.inl ⟨by kernel_rfl, fun u hSw => (by have q := (HX.out u hSw.1).1; go_simp)⟩) hS ?_
                  change wpAnyH _ _ _ _ _ _ _ (Act.put _ (some 59) _) _
                  simp only [Act.put]
                  refine wpAnyH_ready (rs := [35]) (by kernel_rfl) (by simp) ?_
                  refine AllReadyH.cons rfl (fun K hK => ?_) AllReadyH.nil
                  go_simp
                  refine (HOf.out _ GB).mono ?_
                  rintro e1 w2 ⟨A1, c1, rfl, hc1, o1, h9⟩
                  rw [HQ.out] at hc1 ⊢
                  replace KB := KB.below h9 KB.lt
                  replace GB := GB.trans (h9.mono GB.size)
                  clear h9 o1
                  refine hK.out _ _ ⟨GB, KB⟩ (fun hS => ?_)
                  clear hK K
                  refine wpAnyH_take (i := 36) (v := .int .i64 (Q : Int)) rfl (by kernel_rfl) (by kernel_rfl) (by kernel_rfl) (fun _ _ _ h => h) (Or.inl ⟨by kernel_rfl, fun u hSw => (by go_simp)⟩) hS ?_
                  change wpAnyH _ _ _ _ _ _ _ (Act.put _ (some 61) _) _
                  simp only [Act.put]
                  refine wpAnyH_take (i := 37) (v := .bool false) rfl (by kernel_rfl) (by kernel_rfl) (by kernel_rfl) (fun _ _ _ h => h) (Or.inl ⟨by kernel_rfl, fun u hSw => (by go_simp)⟩) hS ?_
                  change wpAnyH _ _ _ _ _ _ _ (Act.put _ (some 62) _) _
                  simp only [Act.put]
                  refine wpAnyH_take (i := 38) (v := .bool false) rfl (by kernel_rfl) (by kernel_rfl) (by kernel_rfl) (fun _ _ _ h => h) (Or.inl ⟨by kernel_rfl, fun u hSw => (by go_simp)⟩) hS ?_
                  change wpAnyH _ _ _ _ _ _ _ (Act.put _ (some 63) _) _
                  simp only [Act.put]
                  refine wpAnyH_done (by kernel_rfl) ?_ _
                  clear hS
                  go_simp
                  have HB := Lib.hid (And.intro KB GB)
                  clear GB KB
                  go_wp2
                  go_roundw
                  case rel => exact ⟨i + 1, by omega, by go_num, HN, HB.out.1, HB.out.2⟩
                  case measure => simp [intOf] <;> omega
                · have HV := Lib.hid (hno (by rw [hok]; simp [h8]))
                  have q8 : decide ((8 : Int) < (Q : Int)) = true := decide_eq_true (by omega)
                  clear hok hno hr hi h8 hlt2 hj
                  go_upto_region 6 with fail
                  replace GB := GB.drew
                  replace KB : Blk wr.drew _ _ _ := KB
                  refine wp_region_held_drew (S := fun u => Below w.heap.size w u ∧ Blk u w.heap.size 25 #[.slice (some ad) n c, .slice B m d]) (by kernel_rfl) ⟨GB, KB⟩ (fun hS => ?_)
                  generalize wr.drew = V at GB KB hS ⊢
                  refine wpAnyH_take (i := 0) (v := .pointer (some ⟨w.heap.size, 0, none⟩)) rfl (by kernel_rfl) (by kernel_rfl) (by kernel_rfl) (fun _ _ _ h => h) (Or.inl ⟨by kernel_rfl, fun u hSw => (by go_simp)⟩) hS ?_
                  change wpAnyH _ _ _ _ _ _ _ (Act.put _ (some 25) _) _
                  simp only [Act.put]
                  refine wpAnyH_take (i := 1) (v := .slice (some ad) n c) rfl (by kernel_rfl) (by kernel_rfl) (by kernel_rfl) (fun _ _ _ h => h) (Or.inl ⟨by kernel_rfl, fun u hSw => (by have q := hSw.2.cell 0; go_simp)⟩) hS ?_
                  change wpAnyH _ _ _ _ _ _ _ (Act.put _ (some 26) _) _
                  simp only [Act.put]
                  refine wpAnyH_take (i := 2) (v := .int .i64 (i : Int)) rfl (by kernel_rfl) (by kernel_rfl) (by kernel_rfl) (fun _ _ _ h => h) (Or.inl ⟨by kernel_rfl, fun u hSw => (by go_simp)⟩) hS ?_
                  change wpAnyH _ _ _ _ _ _ _ (Act.put _ (some 27) _) _
                  simp only [Act.put]
                  refine wpAnyH_take (i := 3) (v := .pointer (some (ad.add (i * 4)))) rfl (by kernel_rfl) (by kernel_rfl) (by kernel_rfl) (fun _ _ _ h => h) (Or.inl ⟨by kernel_rfl, fun u hSw => (by go_simp)⟩) hS ?_
                  change wpAnyH _ _ _ _ _ _ _ (Act.put _ (some 28) _) _
                  simp only [Act.put]
                  refine wpAnyH_take (i := 4) (v := .agg #[.int .i64 x1, .int .i64 x2, .int .i64 x3, .int .i64 x4]) rfl (by kernel_rfl) (by kernel_rfl) (by kernel_rfl) (fun _ _ _ h => h) (Or.inl ⟨by kernel_rfl, fun u hSw => (by obtain ⟨q0, q1, q2, q3⟩ := HX.out u hSw.1; go_simp)⟩) hS ?_
                  change wpAnyH _ _ _ _ _ _ _ (Act.put _ (some 29) _) _
                  simp only [Act.put]
                  refine wpAnyH_ready (rs := [5]) (by kernel_rfl) (by simp) ?_
                  refine AllReadyH.cons rfl (fun K hK => ?_) AllReadyH.nil
                  go_simp
                  refine (HRD.out _).mono ?_
                  rintro e1 w1 ⟨rfl, h9⟩
                  replace KB := KB.below h9 KB.lt
                  replace GB := GB.trans (h9.mono GB.size)
                  clear h9
                  refine hK.out _ _ ⟨GB, KB⟩ (fun hS => ?_)
                  clear hK K
                  refine wpAnyH_take (i := 6) (v := .bool false) rfl (by kernel_rfl) (by kernel_rfl) (by kernel_rfl) (fun _ _ _ h => h) (Or.inl ⟨by kernel_rfl, fun u hSw => (by go_simp)⟩) hS ?_
                  change wpAnyH _ _ _ _ _ _ _ (Act.put _ (some 31) _) _
                  simp only [Act.put]
                  refine wpAnyH_take (i := 7) (v := .bool false) rfl (by kernel_rfl) (by kernel_rfl) (by kernel_rfl) (fun _ _ _ h => h) (Or.inl ⟨by kernel_rfl, fun u hSw => (by go_simp)⟩) hS ?_
                  change wpAnyH _ _ _ _ _ _ _ (Act.put _ (some 32) _) _
                  simp only [Act.put]
                  refine wpAnyH_take (i := 8) (v := .int .i64 (i : Int)) rfl (by kernel_rfl) (by kernel_rfl) (by kernel_rfl) (fun _ _ _ h => h) (Or.inl ⟨by kernel_rfl, fun u hSw => (by go_simp)⟩) hS ?_
                  change wpAnyH _ _ _ _ _ _ _ (Act.put _ (some 33) _) _
                  simp only [Act.put]
                  refine wpAnyH_take (i := 9) (v := .bool true) rfl (by kernel_rfl) (by kernel_rfl) (by kernel_rfl) (fun _ _ _ h => h) (Or.inl ⟨by kernel_rfl, fun u hSw => (by go_simp; exact HIp.out)⟩) hS ?_
                  change wpAnyH _ _ _ _ _ _ _ (Act.put _ (some 34) _) _
                  simp only [Act.put]
                  refine wpAnyH_take (i := 10) (v := .bool true) rfl (by kernel_rfl) (by kernel_rfl) (by kernel_rfl) (fun _ _ _ h => h) (Or.inl ⟨by kernel_rfl, fun u hSw => (by go_simp)⟩) hS ?_
                  change wpAnyH _ _ _ _ _ _ _ (Act.put _ (some 35) _) _
                  simp only [Act.put]
                  refine wpAnyH_take (i := 11) (v := .pointer (some ⟨w.heap.size, 0, none⟩)) rfl (by kernel_rfl) (by kernel_rfl) (by kernel_rfl) (fun _ _ _ h => h) (Or.inl ⟨by kernel_rfl, fun u hSw => (by go_simp)⟩) hS ?_
                  change wpAnyH _ _ _ _ _ _ _ (Act.put _ (some 36) _) _
                  simp only [Act.put]
                  refine wpAnyH_take (i := 12) (v := .slice (some ad) n c) rfl (by kernel_rfl) (by kernel_rfl) (by kernel_rfl) (fun _ _ _ h => h) (Or.inl ⟨by kernel_rfl, fun u hSw => (by have q := hSw.2.cell 0; go_simp)⟩) hS ?_
                  change wpAnyH _ _ _ _ _ _ _ (Act.put _ (some 37) _) _
                  simp only [Act.put]
                  refine wpAnyH_take (i := 13) (v := .int .i64 (i : Int)) rfl (by kernel_rfl) (by kernel_rfl) (by kernel_rfl) (fun _ _ _ h => h) (Or.inl ⟨by kernel_rfl, fun u hSw => (by go_simp)⟩) hS ?_
                  change wpAnyH _ _ _ _ _ _ _ (Act.put _ (some 38) _) _
                  simp only [Act.put]
                  refine wpAnyH_take (i := 14) (v := .int .i64 (j : Int)) rfl (by kernel_rfl) (by kernel_rfl) (by kernel_rfl) (fun _ _ _ h => h) (Or.inl ⟨by kernel_rfl, fun u hSw => (by go_simp; exact HJw.out)⟩) hS ?_
                  change wpAnyH _ _ _ _ _ _ _ (Act.put _ (some 39) _) _
                  simp only [Act.put]
                  refine wpAnyH_take (i := 15) (v := .pointer (some (ad.add (j * 4)))) rfl (by kernel_rfl) (by kernel_rfl) (by kernel_rfl) (fun _ _ _ h => h) (Or.inl ⟨by kernel_rfl, fun u hSw => (by go_simp)⟩) hS ?_
                  change wpAnyH _ _ _ _ _ _ _ (Act.put _ (some 40) _) _
                  simp only [Act.put]
                  refine wpAnyH_take (i := 16) (v := .pointer (some (ad.add (j * 4)))) rfl (by kernel_rfl) (by kernel_rfl) (by kernel_rfl) (fun _ _ _ h => h) (Or.inl ⟨by kernel_rfl, fun u hSw => (by go_simp)⟩) hS ?_
                  change wpAnyH _ _ _ _ _ _ _ (Act.put _ (some 41) _) _
                  simp only [Act.put]
                  refine wpAnyH_take (i := 17) (v := .int .i64 p1) rfl (by kernel_rfl) (by kernel_rfl) (by kernel_rfl) (fun _ _ _ h => h) (Or.inl ⟨by kernel_rfl, fun u hSw => (by have q := HP.out u hSw.1; go_simp)⟩) hS ?_
                  change wpAnyH _ _ _ _ _ _ _ (Act.put _ (some 42) _) _
                  simp only [Act.put]
                  refine wpAnyH_take (i := 18) (v := .pointer (some ⟨w.heap.size, 0, none⟩)) rfl (by kernel_rfl) (by kernel_rfl) (by kernel_rfl) (fun _ _ _ h => h) (Or.inl ⟨by kernel_rfl, fun u hSw => (by go_simp)⟩) hS ?_
                  change wpAnyH _ _ _ _ _ _ _ (Act.put _ (some 43) _) _
                  simp only [Act.put]
                  refine wpAnyH_take (i := 19) (v := .slice (some ad) n c) rfl (by kernel_rfl) (by kernel_rfl) (by kernel_rfl) (fun _ _ _ h => h) (Or.inl ⟨by kernel_rfl, fun u hSw => (by have q := hSw.2.cell 0; go_simp)⟩) hS ?_
                  change wpAnyH _ _ _ _ _ _ _ (Act.put _ (some 44) _) _
                  simp only [Act.put]
                  refine wpAnyH_take (i := 20) (v := .int .i64 (i : Int)) rfl (by kernel_rfl) (by kernel_rfl) (by kernel_rfl) (fun _ _ _ h => h) (Or.inl ⟨by kernel_rfl, fun u hSw => (by go_simp)⟩) hS ?_
                  change wpAnyH _ _ _ _ _ _ _ (Act.put _ (some 45) _) _
                  simp only [Act.put]
                  refine wpAnyH_take (i := 21) (v := .pointer (some (ad.add (i * 4)))) rfl (by kernel_rfl) (by kernel_rfl) (by kernel_rfl) (fun _ _ _ h => h) (Or.inl ⟨by kernel_rfl, fun u hSw => (by go_simp)⟩) hS ?_
                  change wpAnyH _ _ _ _ _ _ _ (Act.put _ (some 46) _) _
                  simp only [Act.put]
                  refine wpAnyH_take (i := 22) (v := .pointer (some (ad.add (i * 4)))) rfl (by kernel_rfl) (by kernel_rfl) (by kernel_rfl) (fun _ _ _ h => h) (Or.inl ⟨by kernel_rfl, fun u hSw => (by go_simp)⟩) hS ?_
                  change wpAnyH _ _ _ _ _ _ _ (Act.put _ (some 47) _) _
                  simp only [Act.put]
                  refine wpAnyH_take (i := 23) (v := .int .i64 x1) rfl (by kernel_rfl) (by kernel_rfl) (by kernel_rfl) (fun _ _ _ h => h) (Or.inl ⟨by kernel_rfl, fun u hSw => (by have q := (HX.out u hSw.1).1; go_simp)⟩) hS ?_
                  change wpAnyH _ _ _ _ _ _ _ (Act.put _ (some 48) _) _
                  simp only [Act.put]
                  refine wpAnyH_take (i := 24) (v := .bool false) rfl (by kernel_rfl) (by kernel_rfl) (by kernel_rfl) (fun _ _ _ h => h) (Or.inl ⟨by kernel_rfl, fun u hSw => (by go_simp)⟩) hS ?_
                  change wpAnyH _ _ _ _ _ _ _ (Act.put _ (some 49) _) _
                  simp only [Act.put]
                  refine wpAnyH_take (i := 25) (v := .bool false) rfl (by kernel_rfl) (by kernel_rfl) (by kernel_rfl) (fun _ _ _ h => h) (Or.inl ⟨by kernel_rfl, fun u hSw => (by go_simp)⟩) hS ?_
                  change wpAnyH _ _ _ _ _ _ _ (Act.put _ (some 50) _) _
                  simp only [Act.put]
                  refine wpAnyH_take (i := 26) (v := .bool false) rfl (by kernel_rfl) (by kernel_rfl) (by kernel_rfl) (fun _ _ _ h => h) (Or.inl ⟨by kernel_rfl, fun u hSw => (by go_simp)⟩) hS ?_
                  change wpAnyH _ _ _ _ _ _ _ (Act.put _ (some 51) _) _
                  simp only [Act.put]
                  refine wpAnyH_take (i := 27) (v := .bool false) rfl (by kernel_rfl) (by kernel_rfl) (by kernel_rfl) (fun _ _ _ h => h) (Or.inl ⟨by kernel_rfl, fun u hSw => (by go_simp)⟩) hS ?_
                  change wpAnyH _ _ _ _ _ _ _ (Act.put _ (some 52) _) _
                  simp only [Act.put]
                  refine wpAnyH_take (i := 28) (v := .agg #[.slice (some ad) n c, .slice B m d]) rfl (by kernel_rfl) (by kernel_rfl) (by kernel_rfl) (fun _ _ _ h => h) (Or.inl ⟨by kernel_rfl, fun u hSw => (by have q := hSw.2.cell 0; have q1 := hSw.2.cell 1; go_simp)⟩) hS ?_
                  change wpAnyH _ _ _ _ _ _ _ (Act.put _ (some 53) _) _
                  simp only [Act.put]
                  refine wpAnyH_take (i := 29) (v := .pointer (some ⟨w.heap.size, 0, none⟩)) rfl (by kernel_rfl) (by kernel_rfl) (by kernel_rfl) (fun _ _ _ h => h) (Or.inl ⟨by kernel_rfl, fun u hSw => (by go_simp)⟩) hS ?_
                  change wpAnyH _ _ _ _ _ _ _ (Act.put _ (some 54) _) _
                  simp only [Act.put]
                  refine wpAnyH_take (i := 30) (v := .slice (some ad) n c) rfl (by kernel_rfl) (by kernel_rfl) (by kernel_rfl) (fun _ _ _ h => h) (Or.inl ⟨by kernel_rfl, fun u hSw => (by have q := hSw.2.cell 0; go_simp)⟩) hS ?_
                  change wpAnyH _ _ _ _ _ _ _ (Act.put _ (some 55) _) _
                  simp only [Act.put]
                  refine wpAnyH_take (i := 31) (v := .int .i64 (i : Int)) rfl (by kernel_rfl) (by kernel_rfl) (by kernel_rfl) (fun _ _ _ h => h) (Or.inl ⟨by kernel_rfl, fun u hSw => (by go_simp)⟩) hS ?_
                  change wpAnyH _ _ _ _ _ _ _ (Act.put _ (some 56) _) _
                  simp only [Act.put]
                  refine wpAnyH_take (i := 32) (v := .pointer (some (ad.add (i * 4)))) rfl (by kernel_rfl) (by kernel_rfl) (by kernel_rfl) (fun _ _ _ h => h) (Or.inl ⟨by kernel_rfl, fun u hSw => (by go_simp)⟩) hS ?_
                  change wpAnyH _ _ _ _ _ _ _ (Act.put _ (some 57) _) _
                  simp only [Act.put]
                  refine wpAnyH_take (i := 33) (v := .pointer (some (ad.add (i * 4)))) rfl (by kernel_rfl) (by kernel_rfl) (by kernel_rfl) (fun _ _ _ h => h) (Or.inl ⟨by kernel_rfl, fun u hSw => (by go_simp)⟩) hS ?_
                  change wpAnyH _ _ _ _ _ _ _ (Act.put _ (some 58) _) _
                  simp only [Act.put]
                  refine wpAnyH_take (i := 34) (v := .int .i64 x1) rfl (by kernel_rfl) (by kernel_rfl) (by kernel_rfl) (fun _ _ _ h => h) (Or.inl ⟨by kernel_rfl, fun u hSw => (by have q := (HX.out u hSw.1).1; go_simp)⟩) hS ?_
                  change wpAnyH _ _ _ _ _ _ _ (Act.put _ (some 59) _) _
                  simp only [Act.put]
                  refine wpAnyH_ready (rs := [35]) (by kernel_rfl) (by simp) ?_
                  refine AllReadyH.cons rfl (fun K hK => ?_) AllReadyH.nil
                  go_simp
                  refine (HOf.out _ GB).mono ?_
                  rintro e1 w2 ⟨A1, c1, rfl, hc1, o1, h9⟩
                  rw [HQ.out] at hc1 ⊢
                  replace KB := KB.below h9 KB.lt
                  replace GB := GB.trans (h9.mono GB.size)
                  clear h9 o1
                  refine hK.out _ _ ⟨GB, KB⟩ (fun hS => ?_)
                  clear hK K
                  refine wpAnyH_take (i := 36) (v := .int .i64 (Q : Int)) rfl (by kernel_rfl) (by kernel_rfl) (by kernel_rfl) (fun _ _ _ h => h) (Or.inl ⟨by kernel_rfl, fun u hSw => (by go_simp)⟩) hS ?_
                  change wpAnyH _ _ _ _ _ _ _ (Act.put _ (some 61) _) _
                  simp only [Act.put]
                  refine wpAnyH_take (i := 37) (v := .bool true) rfl (by kernel_rfl) (by kernel_rfl) (by kernel_rfl) (fun _ _ _ h => h) (Or.inl ⟨by kernel_rfl, fun u hSw => (by go_simp)⟩) hS ?_
                  change wpAnyH _ _ _ _ _ _ _ (Act.put _ (some 62) _) _
                  simp only [Act.put]
                  refine wpAnyH_take (i := 38) (v := .bool true) rfl (by kernel_rfl) (by kernel_rfl) (by kernel_rfl) (fun _ _ _ h => h) (Or.inl ⟨by kernel_rfl, fun u hSw => (by go_simp)⟩) hS ?_
                  change wpAnyH _ _ _ _ _ _ _ (Act.put _ (some 63) _) _
                  simp only [Act.put]
                  refine wpAnyH_done (by kernel_rfl) ?_ _
                  clear hS
                  go_simp
                  have HB := Lib.hid GB
                  clear GB KB
                  go_wp2
                  go_ret
                  exact ⟨retB HV.out.symm, HB.out⟩
              · have b2 : decide (x1 ≤ p1) = true := decide_eq_true (by omega)
                have HV := Lib.hid (hno (by rw [hok]; simp [hlt2, hi]))
                clear hok hno hr hi hlt2 hj
                go_upto_region 6 with fail
                replace GB := GB.drew
                replace KB : Blk wr.drew _ _ _ := KB
                refine wp_region_held_drew (S := fun u => Below w.heap.size w u ∧ Blk u w.heap.size 25 #[.slice (some ad) n c, .slice B m d]) (by kernel_rfl) ⟨GB, KB⟩ (fun hS => ?_)
                generalize wr.drew = V at GB KB hS ⊢
                refine wpAnyH_take (i := 0) (v := .pointer (some ⟨w.heap.size, 0, none⟩)) rfl (by kernel_rfl) (by kernel_rfl) (by kernel_rfl) (fun _ _ _ h => h) (Or.inl ⟨by kernel_rfl, fun u hSw => (by go_simp)⟩) hS ?_
                change wpAnyH _ _ _ _ _ _ _ (Act.put _ (some 25) _) _
                simp only [Act.put]
                refine wpAnyH_take (i := 1) (v := .slice (some ad) n c) rfl (by kernel_rfl) (by kernel_rfl) (by kernel_rfl) (fun _ _ _ h => h) (Or.inl ⟨by kernel_rfl, fun u hSw => (by have q := hSw.2.cell 0; go_simp)⟩) hS ?_
                change wpAnyH _ _ _ _ _ _ _ (Act.put _ (some 26) _) _
                simp only [Act.put]
                refine wpAnyH_take (i := 2) (v := .int .i64 (i : Int)) rfl (by kernel_rfl) (by kernel_rfl) (by kernel_rfl) (fun _ _ _ h => h) (Or.inl ⟨by kernel_rfl, fun u hSw => (by go_simp)⟩) hS ?_
                change wpAnyH _ _ _ _ _ _ _ (Act.put _ (some 27) _) _
                simp only [Act.put]
                refine wpAnyH_take (i := 3) (v := .pointer (some (ad.add (i * 4)))) rfl (by kernel_rfl) (by kernel_rfl) (by kernel_rfl) (fun _ _ _ h => h) (Or.inl ⟨by kernel_rfl, fun u hSw => (by go_simp)⟩) hS ?_
                change wpAnyH _ _ _ _ _ _ _ (Act.put _ (some 28) _) _
                simp only [Act.put]
                refine wpAnyH_take (i := 4) (v := .agg #[.int .i64 x1, .int .i64 x2, .int .i64 x3, .int .i64 x4]) rfl (by kernel_rfl) (by kernel_rfl) (by kernel_rfl) (fun _ _ _ h => h) (Or.inl ⟨by kernel_rfl, fun u hSw => (by obtain ⟨q0, q1, q2, q3⟩ := HX.out u hSw.1; go_simp)⟩) hS ?_
                change wpAnyH _ _ _ _ _ _ _ (Act.put _ (some 29) _) _
                simp only [Act.put]
                refine wpAnyH_ready (rs := [5]) (by kernel_rfl) (by simp) ?_
                refine AllReadyH.cons rfl (fun K hK => ?_) AllReadyH.nil
                go_simp
                refine (HRD.out _).mono ?_
                rintro e1 w1 ⟨rfl, h9⟩
                replace KB := KB.below h9 KB.lt
                replace GB := GB.trans (h9.mono GB.size)
                clear h9
                refine hK.out _ _ ⟨GB, KB⟩ (fun hS => ?_)
                clear hK K
                refine wpAnyH_take (i := 6) (v := .bool false) rfl (by kernel_rfl) (by kernel_rfl) (by kernel_rfl) (fun _ _ _ h => h) (Or.inl ⟨by kernel_rfl, fun u hSw => (by go_simp)⟩) hS ?_
                change wpAnyH _ _ _ _ _ _ _ (Act.put _ (some 31) _) _
                simp only [Act.put]
                refine wpAnyH_take (i := 7) (v := .bool false) rfl (by kernel_rfl) (by kernel_rfl) (by kernel_rfl) (fun _ _ _ h => h) (Or.inl ⟨by kernel_rfl, fun u hSw => (by go_simp)⟩) hS ?_
                change wpAnyH _ _ _ _ _ _ _ (Act.put _ (some 32) _) _
                simp only [Act.put]
                refine wpAnyH_take (i := 8) (v := .int .i64 (i : Int)) rfl (by kernel_rfl) (by kernel_rfl) (by kernel_rfl) (fun _ _ _ h => h) (Or.inl ⟨by kernel_rfl, fun u hSw => (by go_simp)⟩) hS ?_
                change wpAnyH _ _ _ _ _ _ _ (Act.put _ (some 33) _) _
                simp only [Act.put]
                refine wpAnyH_take (i := 9) (v := .bool true) rfl (by kernel_rfl) (by kernel_rfl) (by kernel_rfl) (fun _ _ _ h => h) (Or.inl ⟨by kernel_rfl, fun u hSw => (by go_simp; exact HIp.out)⟩) hS ?_
                change wpAnyH _ _ _ _ _ _ _ (Act.put _ (some 34) _) _
                simp only [Act.put]
                refine wpAnyH_take (i := 10) (v := .bool true) rfl (by kernel_rfl) (by kernel_rfl) (by kernel_rfl) (fun _ _ _ h => h) (Or.inl ⟨by kernel_rfl, fun u hSw => (by go_simp)⟩) hS ?_
                change wpAnyH _ _ _ _ _ _ _ (Act.put _ (some 35) _) _
                simp only [Act.put]
                refine wpAnyH_take (i := 11) (v := .pointer (some ⟨w.heap.size, 0, none⟩)) rfl (by kernel_rfl) (by kernel_rfl) (by kernel_rfl) (fun _ _ _ h => h) (Or.inl ⟨by kernel_rfl, fun u hSw => (by go_simp)⟩) hS ?_
                change wpAnyH _ _ _ _ _ _ _ (Act.put _ (some 36) _) _
                simp only [Act.put]
                refine wpAnyH_take (i := 12) (v := .slice (some ad) n c) rfl (by kernel_rfl) (by kernel_rfl) (by kernel_rfl) (fun _ _ _ h => h) (Or.inl ⟨by kernel_rfl, fun u hSw => (by have q := hSw.2.cell 0; go_simp)⟩) hS ?_
                change wpAnyH _ _ _ _ _ _ _ (Act.put _ (some 37) _) _
                simp only [Act.put]
                refine wpAnyH_take (i := 13) (v := .int .i64 (i : Int)) rfl (by kernel_rfl) (by kernel_rfl) (by kernel_rfl) (fun _ _ _ h => h) (Or.inl ⟨by kernel_rfl, fun u hSw => (by go_simp)⟩) hS ?_
                change wpAnyH _ _ _ _ _ _ _ (Act.put _ (some 38) _) _
                simp only [Act.put]
                refine wpAnyH_take (i := 14) (v := .int .i64 (j : Int)) rfl (by kernel_rfl) (by kernel_rfl) (by kernel_rfl) (fun _ _ _ h => h) (Or.inl ⟨by kernel_rfl, fun u hSw => (by go_simp; exact HJw.out)⟩) hS ?_
                change wpAnyH _ _ _ _ _ _ _ (Act.put _ (some 39) _) _
                simp only [Act.put]
                refine wpAnyH_take (i := 15) (v := .pointer (some (ad.add (j * 4)))) rfl (by kernel_rfl) (by kernel_rfl) (by kernel_rfl) (fun _ _ _ h => h) (Or.inl ⟨by kernel_rfl, fun u hSw => (by go_simp)⟩) hS ?_
                change wpAnyH _ _ _ _ _ _ _ (Act.put _ (some 40) _) _
                simp only [Act.put]
                refine wpAnyH_take (i := 16) (v := .pointer (some (ad.add (j * 4)))) rfl (by kernel_rfl) (by kernel_rfl) (by kernel_rfl) (fun _ _ _ h => h) (Or.inl ⟨by kernel_rfl, fun u hSw => (by go_simp)⟩) hS ?_
                change wpAnyH _ _ _ _ _ _ _ (Act.put _ (some 41) _) _
                simp only [Act.put]
                refine wpAnyH_take (i := 17) (v := .int .i64 p1) rfl (by kernel_rfl) (by kernel_rfl) (by kernel_rfl) (fun _ _ _ h => h) (Or.inl ⟨by kernel_rfl, fun u hSw => (by have q := HP.out u hSw.1; go_simp)⟩) hS ?_
                change wpAnyH _ _ _ _ _ _ _ (Act.put _ (some 42) _) _
                simp only [Act.put]
                refine wpAnyH_take (i := 18) (v := .pointer (some ⟨w.heap.size, 0, none⟩)) rfl (by kernel_rfl) (by kernel_rfl) (by kernel_rfl) (fun _ _ _ h => h) (Or.inl ⟨by kernel_rfl, fun u hSw => (by go_simp)⟩) hS ?_
                change wpAnyH _ _ _ _ _ _ _ (Act.put _ (some 43) _) _
                simp only [Act.put]
                refine wpAnyH_take (i := 19) (v := .slice (some ad) n c) rfl (by kernel_rfl) (by kernel_rfl) (by kernel_rfl) (fun _ _ _ h => h) (Or.inl ⟨by kernel_rfl, fun u hSw => (by have q := hSw.2.cell 0; go_simp)⟩) hS ?_
                change wpAnyH _ _ _ _ _ _ _ (Act.put _ (some 44) _) _
                simp only [Act.put]
                refine wpAnyH_take (i := 20) (v := .int .i64 (i : Int)) rfl (by kernel_rfl) (by kernel_rfl) (by kernel_rfl) (fun _ _ _ h => h) (Or.inl ⟨by kernel_rfl, fun u hSw => (by go_simp)⟩) hS ?_
                change wpAnyH _ _ _ _ _ _ _ (Act.put _ (some 45) _) _
                simp only [Act.put]
                refine wpAnyH_take (i := 21) (v := .pointer (some (ad.add (i * 4)))) rfl (by kernel_rfl) (by kernel_rfl) (by kernel_rfl) (fun _ _ _ h => h) (Or.inl ⟨by kernel_rfl, fun u hSw => (by go_simp)⟩) hS ?_
                change wpAnyH _ _ _ _ _ _ _ (Act.put _ (some 46) _) _
                simp only [Act.put]
                refine wpAnyH_take (i := 22) (v := .pointer (some (ad.add (i * 4)))) rfl (by kernel_rfl) (by kernel_rfl) (by kernel_rfl) (fun _ _ _ h => h) (Or.inl ⟨by kernel_rfl, fun u hSw => (by go_simp)⟩) hS ?_
                change wpAnyH _ _ _ _ _ _ _ (Act.put _ (some 47) _) _
                simp only [Act.put]
                refine wpAnyH_take (i := 23) (v := .int .i64 x1) rfl (by kernel_rfl) (by kernel_rfl) (by kernel_rfl) (fun _ _ _ h => h) (Or.inl ⟨by kernel_rfl, fun u hSw => (by have q := (HX.out u hSw.1).1; go_simp)⟩) hS ?_
                change wpAnyH _ _ _ _ _ _ _ (Act.put _ (some 48) _) _
                simp only [Act.put]
                refine wpAnyH_take (i := 24) (v := .bool true) rfl (by kernel_rfl) (by kernel_rfl) (by kernel_rfl) (fun _ _ _ h => h) (Or.inl ⟨by kernel_rfl, fun u hSw => (by go_simp)⟩) hS ?_
                change wpAnyH _ _ _ _ _ _ _ (Act.put _ (some 49) _) _
                simp only [Act.put]
                refine wpAnyH_take (i := 25) (v := .bool true) rfl (by kernel_rfl) (by kernel_rfl) (by kernel_rfl) (fun _ _ _ h => h) (Or.inl ⟨by kernel_rfl, fun u hSw => (by go_simp)⟩) hS ?_
                change wpAnyH _ _ _ _ _ _ _ (Act.put _ (some 50) _) _
                simp only [Act.put]
                refine wpAnyH_take (i := 26) (v := .bool true) rfl (by kernel_rfl) (by kernel_rfl) (by kernel_rfl) (fun _ _ _ h => h) (Or.inl ⟨by kernel_rfl, fun u hSw => (by go_simp)⟩) hS ?_
                change wpAnyH _ _ _ _ _ _ _ (Act.put _ (some 51) _) _
                simp only [Act.put]
                refine wpAnyH_take (i := 27) (v := .bool true) rfl (by kernel_rfl) (by kernel_rfl) (by kernel_rfl) (fun _ _ _ h => h) (Or.inl ⟨by kernel_rfl, fun u hSw => (by go_simp)⟩) hS ?_
                change wpAnyH _ _ _ _ _ _ _ (Act.put _ (some 52) _) _
                simp only [Act.put]
                refine wpAnyH_take (i := 28) (v := undef) rfl (by kernel_rfl) (by kernel_rfl) (by kernel_rfl) (fun _ _ _ h => h) (Or.inr ⟨by kernel_rfl, rfl⟩) hS ?_
                change wpAnyH _ _ _ _ _ _ _ (Act.put _ (some 53) _) _
                simp only [Act.put]
                refine wpAnyH_take (i := 29) (v := undef) rfl (by kernel_rfl) (by kernel_rfl) (by kernel_rfl) (fun _ _ _ h => h) (Or.inr ⟨by kernel_rfl, rfl⟩) hS ?_
                change wpAnyH _ _ _ _ _ _ _ (Act.put _ (some 54) _) _
                simp only [Act.put]
                refine wpAnyH_take (i := 30) (v := undef) rfl (by kernel_rfl) (by kernel_rfl) (by kernel_rfl) (fun _ _ _ h => h) (Or.inr ⟨by kernel_rfl, rfl⟩) hS ?_
                change wpAnyH _ _ _ _ _ _ _ (Act.put _ (some 55) _) _
                simp only [Act.put]
                refine wpAnyH_take (i := 31) (v := undef) rfl (by kernel_rfl) (by kernel_rfl) (by kernel_rfl) (fun _ _ _ h => h) (Or.inr ⟨by kernel_rfl, rfl⟩) hS ?_
                change wpAnyH _ _ _ _ _ _ _ (Act.put _ (some 56) _) _
                simp only [Act.put]
                refine wpAnyH_take (i := 32) (v := undef) rfl (by kernel_rfl) (by kernel_rfl) (by kernel_rfl) (fun _ _ _ h => h) (Or.inr ⟨by kernel_rfl, rfl⟩) hS ?_
                change wpAnyH _ _ _ _ _ _ _ (Act.put _ (some 57) _) _
                simp only [Act.put]
                refine wpAnyH_take (i := 33) (v := undef) rfl (by kernel_rfl) (by kernel_rfl) (by kernel_rfl) (fun _ _ _ h => h) (Or.inr ⟨by kernel_rfl, rfl⟩) hS ?_
                change wpAnyH _ _ _ _ _ _ _ (Act.put _ (some 58) _) _
                simp only [Act.put]
                refine wpAnyH_take (i := 34) (v := undef) rfl (by kernel_rfl) (by kernel_rfl) (by kernel_rfl) (fun _ _ _ h => h) (Or.inr ⟨by kernel_rfl, rfl⟩) hS ?_
                change wpAnyH _ _ _ _ _ _ _ (Act.put _ (some 59) _) _
                simp only [Act.put]
                refine wpAnyH_take (i := 35) (v := undef) rfl (by kernel_rfl) (by kernel_rfl) (by kernel_rfl) (fun _ _ _ h => h) (Or.inr ⟨by kernel_rfl, rfl⟩) hS ?_
                change wpAnyH _ _ _ _ _ _ _ (Act.put _ (some 60) _) _
                simp only [Act.put]
                refine wpAnyH_take (i := 36) (v := undef) rfl (by kernel_rfl) (by kernel_rfl) (by kernel_rfl) (fun _ _ _ h => h) (Or.inr ⟨by kernel_rfl, rfl⟩) hS ?_
                change wpAnyH _ _ _ _ _ _ _ (Act.put _ (some 61) _) _
                simp only [Act.put]
                refine wpAnyH_take (i := 37) (v := undef) rfl (by kernel_rfl) (by kernel_rfl) (by kernel_rfl) (fun _ _ _ h => h) (Or.inr ⟨by kernel_rfl, rfl⟩) hS ?_
                change wpAnyH _ _ _ _ _ _ _ (Act.put _ (some 62) _) _
                simp only [Act.put]
                refine wpAnyH_take (i := 38) (v := .bool true) rfl (by kernel_rfl) (by kernel_rfl) (by kernel_rfl) (fun _ _ _ h => h) (Or.inl ⟨by kernel_rfl, fun u hSw => (by go_simp)⟩) hS ?_
                change wpAnyH _ _ _ _ _ _ _ (Act.put _ (some 63) _) _
                simp only [Act.put]
                refine wpAnyH_done (by kernel_rfl) ?_ _
                clear hS
                go_simp
                have HB := Lib.hid GB
                clear GB KB
                go_wp2
                go_ret
                exact ⟨retB HV.out.symm, HB.out⟩
        · obtain rfl : n = i := by omega
          have HA1 : Hid (allK (domOk ds us) ds.length = true) := Lib.hid (by rw [HL.out.1]; exact HA.out)
          have kk := KB.cell 0
          have HS := Lib.hid (And.intro KB GB)
          clear HA hi hlt KB GB
          go_wp2_with fail
          clear kk
          go_loopw [4] (fun iv wr => ∃ i : Nat, i ≤ m ∧ iv = .int .i64 (i : Int) ∧ Hid (allK (vcOk ds us) i = true) ∧ Blk wr w.heap.size 25 #[.slice A n c, .slice B m d] ∧ Below w.heap.size w wr) (fun iv _ => m - (intOf iv).toNat)
          case atStart => exact ⟨0, by omega, rfl, Lib.hid rfl, HS.out.1, HS.out.2⟩
          case round =>
            clear HS
            obtain ⟨i, hi, rfl, HA, KB, GB⟩ := hrel
            by_cases hlt : i < m
            · have kk := KB.cell 1
              obtain ⟨⟨y1, y2, y3, y4⟩, hx⟩ := elem_at (l := us) (k := i) (by rw [HL.out.2]; exact hlt)
              obtain ⟨bd, hA, _⟩ := vc_at (HR.out.vcs.below GB) hx
              subst hA
              have HX : Hid (∀ u, Below w.heap.size w u → u.cell? (bd.add (i * 4)) = some (.int .i64 y1) ∧ u.cell? ⟨(bd.add (i * 4)).block, (bd.add (i * 4)).off + 1, none⟩ = some (.int .i64 y2) ∧ u.cell? ⟨(bd.add (i * 4)).block, (bd.add (i * 4)).off + 2, none⟩ = some (.int .u32 (y3 : Int)) ∧ u.cell? ⟨(bd.add (i * 4)).block, (bd.add (i * 4)).off + 3, none⟩ = some (.int .u32 (y4 : Int))) := Lib.hid (fun u h => by
                obtain ⟨ad2, e, _, q⟩ := vc_at (HR.out.vcs.below h) hx
                injection e with e
                subst e
                exact q)
              have hg : us.getD i zeroV = (y1, y2, y3, y4) := vgetD hx
              have HRM := Lib.hid (fun u => rrightM_any y3 y4 u)
              have HDo := Lib.hid (fun (u : World) (h : Below w.heap.size w u) => rdom_any A n c ds (some bd) m d us y2 u (HR.out.below h))
              obtain ⟨⟨⟨a, b, e, f⟩, th⟩, hdv⟩ : ∃ r, domV ds y2 = r := ⟨_, rfl⟩
              have HDv := Lib.hid hdv
              have i0 : (0 : Int) ≤ (i : Int) := by omega
              have i1 : (i : Int) < (m : Int) := by omega
              have hok : vcOk ds us i = (decide (1 ≤ y1) && decide (y1 ≤ 16) && th && rightK y3 y4 && (decide (i = 0) || decide ((us.getD (i - 1) zeroV).1 < y1))) := by unfold vcOk; rw [hg, hdv]
              have hno : vcOk ds us i = false → rightG ds us = false := fun h => by unfold rightG; rw [allK_no (by rw [HL.out.2]; exact hlt) h]; simp
              clear hx hg hdv
              by_cases y0 : 1 ≤ y1
              · have t1 : decide (y1 < 1) = false := decide_eq_false (by omega)
                by_cases y16 : y1 ≤ 16
                · have t2 : decide ((16 : Int) < y1) = false := decide_eq_false (by omega)
                  cases th with
                  | false =>
                    have HV := Lib.hid (hno (by rw [hok]; simp))
                    clear hok hno y0 y16
                    have k0 := KB.cell 0
                    have k1 : wr.cell? ⟨w.heap.size, 1, none⟩ = some (.slice (some bd) m d) := KB.cell 1
                    obtain ⟨q0, q1, q2, q3⟩ := HX.out _ GB
                    have KB1 := KB.alloc (.cells #[.int .i64 y1, .int .i64 y2, .int .u32 (y3 : Int), .int .u32 (y4 : Int)] 50)
                    have GB1 := GB.alloc GB.size (.cells #[.int .i64 y1, .int .i64 y2, .int .u32 (y3 : Int), .int .u32 (y4 : Int)] 50)
                    have KV1 := Blk.new wr 50 #[.int .i64 y1, .int .i64 y2, .int .u32 (y3 : Int), .int .u32 (y4 : Int)]
                    have l0 := KB1.cell 0
                    have l1 := KB1.cell 1
                    clear KB GB
                    go_wp2_with fail
                    refine (HDo.out _ GB1).mono ?_
                    rw [HDv.out]
                    rintro e1 w1 ⟨rfl, h9⟩
                    have KB := (KB1.below h9 KB1.lt).alloc (.cells #[.int .i64 a, .int .i64 b, .int .i64 e, .int .i64 f] 27)
                    have KV := (KV1.below h9 KV1.lt).alloc (.cells #[.int .i64 a, .int .i64 b, .int .i64 e, .int .i64 f] 27)
                    have GB := (GB1.trans (h9.mono GB1.size)).alloc (GB1.trans (h9.mono GB1.size)).size (.cells #[.int .i64 a, .int .i64 b, .int .i64 e, .int .i64 f] 27)
                    clear h9 KB1 KV1 GB1 k0 k1 q0 q1 q2 q3 l0 l1
                    go_upto_region 13 with fail
                    generalize wr.heap.size = gv at KV ⊢
                    generalize w1.alloc (.cells #[.int .i64 a, .int .i64 b, .int .i64 e, .int .i64 f] 27) = W9 at KB KV GB ⊢
                    replace GB := GB.drew
                    replace KB : Blk W9.drew _ _ _ := KB
                    replace KV : Blk W9.drew _ _ _ := KV
                    refine wp_region_held_drew (S := fun u => Below w.heap.size w u ∧ Blk u w.heap.size 25 #[.slice A n c, .slice (some bd) m d] ∧ Blk u gv 50 #[.int .i64 y1, .int .i64 y2, .int .u32 (y3 : Int), .int .u32 (y4 : Int)]) (by kernel_rfl) ⟨GB, KB, KV⟩ (fun hS => ?_)
                    generalize W9.drew = V at GB KB KV hS ⊢
                    refine wpAnyH_take (i := 0) (v := .pointer (some ⟨gv, 0, none⟩)) rfl (by kernel_rfl) (by kernel_rfl) (by kernel_rfl) (fun _ _ _ h => h) (Or.inl ⟨by kernel_rfl, fun u hSw => (by go_simp)⟩) hS ?_
                    change wpAnyH _ _ _ _ _ _ _ (Act.put _ (some 83) _) _
                    simp only [Act.put]
                    refine wpAnyH_take (i := 1) (v := .int .i64 y1) rfl (by kernel_rfl) (by kernel_rfl) (by kernel_rfl) (fun _ _ _ h => h) (Or.inl ⟨by kernel_rfl, fun u hSw => (by have q := hSw.2.2.cell 0; go_simp)⟩) hS ?_
                    change wpAnyH _ _ _ _ _ _ _ (Act.put _ (some 84) _) _
                    simp only [Act.put]
                    refine wpAnyH_take (i := 2) (v := .bool false) rfl (by kernel_rfl) (by kernel_rfl) (by kernel_rfl) (fun _ _ _ h => h) (Or.inl ⟨by kernel_rfl, fun u hSw => (by go_simp)⟩) hS ?_
                    change wpAnyH _ _ _ _ _ _ _ (Act.put _ (some 85) _) _
                    simp only [Act.put]
                    refine wpAnyH_take (i := 3) (v := .bool false) rfl (by kernel_rfl) (by kernel_rfl) (by kernel_rfl) (fun _ _ _ h => h) (Or.inl ⟨by kernel_rfl, fun u hSw => (by go_simp)⟩) hS ?_
                    change wpAnyH _ _ _ _ _ _ _ (Act.put _ (some 86) _) _
                    simp only [Act.put]
                    refine wpAnyH_take (i := 4) (v := .pointer (some ⟨gv, 0, none⟩)) rfl (by kernel_rfl) (by kernel_rfl) (by kernel_rfl) (fun _ _ _ h => h) (Or.inl ⟨by kernel_rfl, fun u hSw => (by go_simp)⟩) hS ?_
                    change wpAnyH _ _ _ _ _ _ _ (Act.put _ (some 87) _) _
                    simp only [Act.put]
                    refine wpAnyH_take (i := 5) (v := .int .i64 y1) rfl (by kernel_rfl) (by kernel_rfl) (by kernel_rfl) (fun _ _ _ h => h) (Or.inl ⟨by kernel_rfl, fun u hSw => (by have q := hSw.2.2.cell 0; go_simp)⟩) hS ?_
                    change wpAnyH _ _ _ _ _ _ _ (Act.put _ (some 88) _) _
                    simp only [Act.put]
                    refine wpAnyH_take (i := 6) (v := .bool false) rfl (by kernel_rfl) (by kernel_rfl) (by kernel_rfl) (fun _ _ _ h => h) (Or.inl ⟨by kernel_rfl, fun u hSw => (by go_simp)⟩) hS ?_
                    change wpAnyH _ _ _ _ _ _ _ (Act.put _ (some 89) _) _
                    simp only [Act.put]
                    refine wpAnyH_take (i := 7) (v := .bool false) rfl (by kernel_rfl) (by kernel_rfl) (by kernel_rfl) (fun _ _ _ h => h) (Or.inl ⟨by kernel_rfl, fun u hSw => (by go_simp)⟩) hS ?_
                    change wpAnyH _ _ _ _ _ _ _ (Act.put _ (some 90) _) _
                    simp only [Act.put]
                    refine wpAnyH_take (i := 8) (v := .bool false) rfl (by kernel_rfl) (by kernel_rfl) (by kernel_rfl) (fun _ _ _ h => h) (Or.inl ⟨by kernel_rfl, fun u hSw => (by go_simp)⟩) hS ?_
                    change wpAnyH _ _ _ _ _ _ _ (Act.put _ (some 91) _) _
                    simp only [Act.put]
                    refine wpAnyH_take (i := 9) (v := .bool false) rfl (by kernel_rfl) (by kernel_rfl) (by kernel_rfl) (fun _ _ _ h => h) (Or.inl ⟨by kernel_rfl, fun u hSw => (by go_simp)⟩) hS ?_
                    change wpAnyH _ _ _ _ _ _ _ (Act.put _ (some 92) _) _
                    simp only [Act.put]
                    refine wpAnyH_take (i := 10) (v := .bool true) rfl (by kernel_rfl) (by kernel_rfl) (by kernel_rfl) (fun _ _ _ h => h) (Or.inl ⟨by kernel_rfl, fun u hSw => (by go_simp)⟩) hS ?_
                    change wpAnyH _ _ _ _ _ _ _ (Act.put _ (some 93) _) _
                    simp only [Act.put]
                    refine wpAnyH_take (i := 11) (v := .bool true) rfl (by kernel_rfl) (by kernel_rfl) (by kernel_rfl) (fun _ _ _ h => h) (Or.inl ⟨by kernel_rfl, fun u hSw => (by go_simp)⟩) hS ?_
                    change wpAnyH _ _ _ _ _ _ _ (Act.put _ (some 94) _) _
                    simp only [Act.put]
                    refine wpAnyH_take (i := 12) (v := .bool true) rfl (by kernel_rfl) (by kernel_rfl) (by kernel_rfl) (fun _ _ _ h => h) (Or.inl ⟨by kernel_rfl, fun u hSw => (by go_simp)⟩) hS ?_
                    change wpAnyH _ _ _ _ _ _ _ (Act.put _ (some 95) _) _
                    simp only [Act.put]
                    refine wpAnyH_take (i := 13) (v := undef) rfl (by kernel_rfl) (by kernel_rfl) (by kernel_rfl) (fun _ _ _ h => h) (Or.inr ⟨by kernel_rfl, rfl⟩) hS ?_
                    change wpAnyH _ _ _ _ _ _ _ (Act.put _ (some 96) _) _
                    simp only [Act.put]
                    refine wpAnyH_take (i := 14) (v := undef) rfl (by kernel_rfl) (by kernel_rfl) (by kernel_rfl) (fun _ _ _ h => h) (Or.inr ⟨by kernel_rfl, rfl⟩) hS ?_
                    change wpAnyH _ _ _ _ _ _ _ (Act.put _ (some 97) _) _
                    simp only [Act.put]
                    refine wpAnyH_take (i := 15) (v := undef) rfl (by kernel_rfl) (by kernel_rfl) (by kernel_rfl) (fun _ _ _ h => h) (Or.inr ⟨by kernel_rfl, rfl⟩) hS ?_
                    change wpAnyH _ _ _ _ _ _ _ (Act.put _ (some 98) _) _
                    simp only [Act.put]
                    refine wpAnyH_take (i := 16) (v := undef) rfl (by kernel_rfl) (by kernel_rfl) (by kernel_rfl) (fun _ _ _ h => h) (Or.inr ⟨by kernel_rfl, rfl⟩) hS ?_
                    change wpAnyH _ _ _ _ _ _ _ (Act.put _ (some 99) _) _
                    simp only [Act.put]
                    refine wpAnyH_take (i := 17) (v := .bool true) rfl (by kernel_rfl) (by kernel_rfl) (by kernel_rfl) (fun _ _ _ h => h) (Or.inl ⟨by kernel_rfl, fun u hSw => (by go_simp)⟩) hS ?_
                    change wpAnyH _ _ _ _ _ _ _ (Act.put _ (some 100) _) _
                    simp only [Act.put]
                    refine wpAnyH_take (i := 18) (v := .bool true) rfl (by kernel_rfl) (by kernel_rfl) (by kernel_rfl) (fun _ _ _ h => h) (Or.inl ⟨by kernel_rfl, fun u hSw => (by go_simp)⟩) hS ?_
                    change wpAnyH _ _ _ _ _ _ _ (Act.put _ (some 101) _) _
                    simp only [Act.put]
                    refine wpAnyH_take (i := 19) (v := undef) rfl (by kernel_rfl) (by kernel_rfl) (by kernel_rfl) (fun _ _ _ h => h) (Or.inr ⟨by kernel_rfl, rfl⟩) hS ?_
                    change wpAnyH _ _ _ _ _ _ _ (Act.put _ (some 102) _) _
                    simp only [Act.put]
                    refine wpAnyH_take (i := 20) (v := undef) rfl (by kernel_rfl) (by kernel_rfl) (by kernel_rfl) (fun _ _ _ h => h) (Or.inr ⟨by kernel_rfl, rfl⟩) hS ?_
                    change wpAnyH _ _ _ _ _ _ _ (Act.put _ (some 103) _) _
                    simp only [Act.put]
                    refine wpAnyH_take (i := 21) (v := undef) rfl (by kernel_rfl) (by kernel_rfl) (by kernel_rfl) (fun _ _ _ h => h) (Or.inr ⟨by kernel_rfl, rfl⟩) hS ?_
                    change wpAnyH _ _ _ _ _ _ _ (Act.put _ (some 104) _) _
                    simp only [Act.put]
                    refine wpAnyH_take (i := 22) (v := undef) rfl (by kernel_rfl) (by kernel_rfl) (by kernel_rfl) (fun _ _ _ h => h) (Or.inr ⟨by kernel_rfl, rfl⟩) hS ?_
                    change wpAnyH _ _ _ _ _ _ _ (Act.put _ (some 105) _) _
                    simp only [Act.put]
                    refine wpAnyH_take (i := 23) (v := undef) rfl (by kernel_rfl) (by kernel_rfl) (by kernel_rfl) (fun _ _ _ h => h) (Or.inr ⟨by kernel_rfl, rfl⟩) hS ?_
                    change wpAnyH _ _ _ _ _ _ _ (Act.put _ (some 106) _) _
                    simp only [Act.put]
                    refine wpAnyH_take (i := 24) (v := undef) rfl (by kernel_rfl) (by kernel_rfl) (by kernel_rfl) (fun _ _ _ h => h) (Or.inr ⟨by kernel_rfl, rfl⟩) hS ?_
                    change wpAnyH _ _ _ _ _ _ _ (Act.put _ (some 107) _) _
                    simp only [Act.put]
                    refine wpAnyH_take (i := 25) (v := undef) rfl (by kernel_rfl) (by kernel_rfl) (by kernel_rfl) (fun _ _ _ h => h) (Or.inr ⟨by kernel_rfl, rfl⟩) hS ?_
                    change wpAnyH _ _ _ _ _ _ _ (Act.put _ (some 108) _) _
                    simp only [Act.put]
                    refine wpAnyH_take (i := 26) (v := undef) rfl (by kernel_rfl) (by kernel_rfl) (by kernel_rfl) (fun _ _ _ h => h) (Or.inr ⟨by kernel_rfl, rfl⟩) hS ?_
                    change wpAnyH _ _ _ _ _ _ _ (Act.put _ (some 109) _) _
                    simp only [Act.put]
                    refine wpAnyH_take (i := 27) (v := undef) rfl (by kernel_rfl) (by kernel_rfl) (by kernel_rfl) (fun _ _ _ h => h) (Or.inr ⟨by kernel_rfl, rfl⟩) hS ?_
                    change wpAnyH _ _ _ _ _ _ _ (Act.put _ (some 110) _) _
                    simp only [Act.put]
                    refine wpAnyH_take (i := 28) (v := undef) rfl (by kernel_rfl) (by kernel_rfl) (by kernel_rfl) (fun _ _ _ h => h) (Or.inr ⟨by kernel_rfl, rfl⟩) hS ?_
                    change wpAnyH _ _ _ _ _ _ _ (Act.put _ (some 111) _) _
                    simp only [Act.put]
                    refine wpAnyH_take (i := 29) (v := undef) rfl (by kernel_rfl) (by kernel_rfl) (by kernel_rfl) (fun _ _ _ h => h) (Or.inr ⟨by kernel_rfl, rfl⟩) hS ?_
                    change wpAnyH _ _ _ _ _ _ _ (Act.put _ (some 112) _) _
                    simp only [Act.put]
                    refine wpAnyH_take (i := 30) (v := undef) rfl (by kernel_rfl) (by kernel_rfl) (by kernel_rfl) (fun _ _ _ h => h) (Or.inr ⟨by kernel_rfl, rfl⟩) hS ?_
                    change wpAnyH _ _ _ _ _ _ _ (Act.put _ (some 113) _) _
                    simp only [Act.put]
                    refine wpAnyH_take (i := 31) (v := undef) rfl (by kernel_rfl) (by kernel_rfl) (by kernel_rfl) (fun _ _ _ h => h) (Or.inr ⟨by kernel_rfl, rfl⟩) hS ?_
                    change wpAnyH _ _ _ _ _ _ _ (Act.put _ (some 114) _) _
                    simp only [Act.put]
                    refine wpAnyH_take (i := 32) (v := undef) rfl (by kernel_rfl) (by kernel_rfl) (by kernel_rfl) (fun _ _ _ h => h) (Or.inr ⟨by kernel_rfl, rfl⟩) hS ?_
                    change wpAnyH _ _ _ _ _ _ _ (Act.put _ (some 115) _) _
                    simp only [Act.put]
                    refine wpAnyH_take (i := 33) (v := .bool true) rfl (by kernel_rfl) (by kernel_rfl) (by kernel_rfl) (fun _ _ _ h => h) (Or.inl ⟨by kernel_rfl, fun u hSw => (by go_simp)⟩) hS ?_
                    change wpAnyH _ _ _ _ _ _ _ (Act.put _ (some 116) _) _
                    simp only [Act.put]
                    refine wpAnyH_done (by kernel_rfl) ?_ _
                    clear hS
                    go_simp
                    have HB := Lib.hid GB
                    clear GB KB KV
                    go_wp2
                    go_ret
                    exact ⟨retB HV.out.symm, HB.out⟩
                  | true =>
                    cases hm : rightK y3 y4 with
                    | false =>
                      have HV := Lib.hid (hno (by rw [hok, hm]; simp))
                      rw [hm] at HRM
                      clear hok hno y0 y16 hm
                      have k0 := KB.cell 0
                      have k1 : wr.cell? ⟨w.heap.size, 1, none⟩ = some (.slice (some bd) m d) := KB.cell 1
                      obtain ⟨q0, q1, q2, q3⟩ := HX.out _ GB
                      have KB1 := KB.alloc (.cells #[.int .i64 y1, .int .i64 y2, .int .u32 (y3 : Int), .int .u32 (y4 : Int)] 50)
                      have GB1 := GB.alloc GB.size (.cells #[.int .i64 y1, .int .i64 y2, .int .u32 (y3 : Int), .int .u32 (y4 : Int)] 50)
                      have KV1 := Blk.new wr 50 #[.int .i64 y1, .int .i64 y2, .int .u32 (y3 : Int), .int .u32 (y4 : Int)]
                      have l0 := KB1.cell 0
                      have l1 := KB1.cell 1
                      clear KB GB
                      go_wp2_with fail
                      refine (HDo.out _ GB1).mono ?_
                      rw [HDv.out]
                      rintro e1 w1 ⟨rfl, h9⟩
                      have KB := (KB1.below h9 KB1.lt).alloc (.cells #[.int .i64 a, .int .i64 b, .int .i64 e, .int .i64 f] 27)
                      have KV := (KV1.below h9 KV1.lt).alloc (.cells #[.int .i64 a, .int .i64 b, .int .i64 e, .int .i64 f] 27)
                      have GB := (GB1.trans (h9.mono GB1.size)).alloc (GB1.trans (h9.mono GB1.size)).size (.cells #[.int .i64 a, .int .i64 b, .int .i64 e, .int .i64 f] 27)
                      clear h9 KB1 KV1 GB1 k0 k1 q0 q1 q2 q3 l0 l1
                      go_upto_region 13 with fail
                      generalize wr.heap.size = gv at KV ⊢
                      generalize w1.alloc (.cells #[.int .i64 a, .int .i64 b, .int .i64 e, .int .i64 f] 27) = W9 at KB KV GB ⊢
                      replace GB := GB.drew
                      replace KB : Blk W9.drew _ _ _ := KB
                      replace KV : Blk W9.drew _ _ _ := KV
                      refine wp_region_held_drew (S := fun u => Below w.heap.size w u ∧ Blk u w.heap.size 25 #[.slice A n c, .slice (some bd) m d] ∧ Blk u gv 50 #[.int .i64 y1, .int .i64 y2, .int .u32 (y3 : Int), .int .u32 (y4 : Int)]) (by kernel_rfl) ⟨GB, KB, KV⟩ (fun hS => ?_)
                      generalize W9.drew = V at GB KB KV hS ⊢
                      refine wpAnyH_take (i := 0) (v := .pointer (some ⟨gv, 0, none⟩)) rfl (by kernel_rfl) (by kernel_rfl) (by kernel_rfl) (fun _ _ _ h => h) (Or.inl ⟨by kernel_rfl, fun u hSw => (by go_simp)⟩) hS ?_
                      change wpAnyH _ _ _ _ _ _ _ (Act.put _ (some 83) _) _
                      simp only [Act.put]
                      refine wpAnyH_take (i := 1) (v := .int .i64 y1) rfl (by kernel_rfl) (by kernel_rfl) (by kernel_rfl) (fun _ _ _ h => h) (Or.inl ⟨by kernel_rfl, fun u hSw => (by have q := hSw.2.2.cell 0; go_simp)⟩) hS ?_
                      change wpAnyH _ _ _ _ _ _ _ (Act.put _ (some 84) _) _
                      simp only [Act.put]
                      refine wpAnyH_take (i := 2) (v := .bool false) rfl (by kernel_rfl) (by kernel_rfl) (by kernel_rfl) (fun _ _ _ h => h) (Or.inl ⟨by kernel_rfl, fun u hSw => (by go_simp)⟩) hS ?_
                      change wpAnyH _ _ _ _ _ _ _ (Act.put _ (some 85) _) _
                      simp only [Act.put]
                      refine wpAnyH_take (i := 3) (v := .bool false) rfl (by kernel_rfl) (by kernel_rfl) (by kernel_rfl) (fun _ _ _ h => h) (Or.inl ⟨by kernel_rfl, fun u hSw => (by go_simp)⟩) hS ?_
                      change wpAnyH _ _ _ _ _ _ _ (Act.put _ (some 86) _) _
                      simp only [Act.put]
                      refine wpAnyH_take (i := 4) (v := .pointer (some ⟨gv, 0, none⟩)) rfl (by kernel_rfl) (by kernel_rfl) (by kernel_rfl) (fun _ _ _ h => h) (Or.inl ⟨by kernel_rfl, fun u hSw => (by go_simp)⟩) hS ?_
                      change wpAnyH _ _ _ _ _ _ _ (Act.put _ (some 87) _) _
                      simp only [Act.put]
                      refine wpAnyH_take (i := 5) (v := .int .i64 y1) rfl (by kernel_rfl) (by kernel_rfl) (by kernel_rfl) (fun _ _ _ h => h) (Or.inl ⟨by kernel_rfl, fun u hSw => (by have q := hSw.2.2.cell 0; go_simp)⟩) hS ?_
                      change wpAnyH _ _ _ _ _ _ _ (Act.put _ (some 88) _) _
                      simp only [Act.put]
                      refine wpAnyH_take (i := 6) (v := .bool false) rfl (by kernel_rfl) (by kernel_rfl) (by kernel_rfl) (fun _ _ _ h => h) (Or.inl ⟨by kernel_rfl, fun u hSw => (by go_simp)⟩) hS ?_
                      change wpAnyH _ _ _ _ _ _ _ (Act.put _ (some 89) _) _
                      simp only [Act.put]
                      refine wpAnyH_take (i := 7) (v := .bool false) rfl (by kernel_rfl) (by kernel_rfl) (by kernel_rfl) (fun _ _ _ h => h) (Or.inl ⟨by kernel_rfl, fun u hSw => (by go_simp)⟩) hS ?_
                      change wpAnyH _ _ _ _ _ _ _ (Act.put _ (some 90) _) _
                      simp only [Act.put]
                      refine wpAnyH_take (i := 8) (v := .bool false) rfl (by kernel_rfl) (by kernel_rfl) (by kernel_rfl) (fun _ _ _ h => h) (Or.inl ⟨by kernel_rfl, fun u hSw => (by go_simp)⟩) hS ?_
                      change wpAnyH _ _ _ _ _ _ _ (Act.put _ (some 91) _) _
                      simp only [Act.put]
                      refine wpAnyH_take (i := 9) (v := .bool true) rfl (by kernel_rfl) (by kernel_rfl) (by kernel_rfl) (fun _ _ _ h => h) (Or.inl ⟨by kernel_rfl, fun u hSw => (by go_simp)⟩) hS ?_
                      change wpAnyH _ _ _ _ _ _ _ (Act.put _ (some 92) _) _
                      simp only [Act.put]
                      refine wpAnyH_take (i := 10) (v := .bool false) rfl (by kernel_rfl) (by kernel_rfl) (by kernel_rfl) (fun _ _ _ h => h) (Or.inl ⟨by kernel_rfl, fun u hSw => (by go_simp)⟩) hS ?_
                      change wpAnyH _ _ _ _ _ _ _ (Act.put _ (some 93) _) _
                      simp only [Act.put]
                      refine wpAnyH_take (i := 11) (v := .bool false) rfl (by kernel_rfl) (by kernel_rfl) (by kernel_rfl) (fun _ _ _ h => h) (Or.inl ⟨by kernel_rfl, fun u hSw => (by go_simp)⟩) hS ?_
                      change wpAnyH _ _ _ _ _ _ _ (Act.put _ (some 94) _) _
                      simp only [Act.put]
                      refine wpAnyH_take (i := 12) (v := .bool false) rfl (by kernel_rfl) (by kernel_rfl) (by kernel_rfl) (fun _ _ _ h => h) (Or.inl ⟨by kernel_rfl, fun u hSw => (by go_simp)⟩) hS ?_
                      change wpAnyH _ _ _ _ _ _ _ (Act.put _ (some 95) _) _
                      simp only [Act.put]
                      refine wpAnyH_take (i := 13) (v := .pointer (some ⟨gv, 2, none⟩)) rfl (by kernel_rfl) (by kernel_rfl) (by kernel_rfl) (fun _ _ _ h => h) (Or.inl ⟨by kernel_rfl, fun u hSw => (by go_simp)⟩) hS ?_
                      change wpAnyH _ _ _ _ _ _ _ (Act.put _ (some 96) _) _
                      simp only [Act.put]
                      refine wpAnyH_take (i := 14) (v := .agg #[.int .u32 (y3 : Int), .int .u32 (y4 : Int)]) rfl (by kernel_rfl) (by kernel_rfl) (by kernel_rfl) (fun _ _ _ h => h) (Or.inl ⟨by kernel_rfl, fun u hSw => (by have q := hSw.2.2.cell 2; have q1 := hSw.2.2.cell 3; go_simp)⟩) hS ?_
                      change wpAnyH _ _ _ _ _ _ _ (Act.put _ (some 97) _) _
                      simp only [Act.put]
                      refine wpAnyH_ready (rs := [15]) (by kernel_rfl) (by simp) ?_
                      refine AllReadyH.cons rfl (fun K hK => ?_) AllReadyH.nil
                      go_simp
                      refine (HRM.out _).mono ?_
                      rintro e1 w3 ⟨rfl, h9⟩
                      replace KB := KB.below h9 KB.lt
                      replace KV := KV.below h9 KV.lt
                      replace GB := GB.trans (h9.mono GB.size)
                      clear h9
                      refine hK.out _ _ ⟨GB, KB, KV⟩ (fun hS => ?_)
                      clear hK K
                      refine wpAnyH_take (i := 16) (v := .bool true) rfl (by kernel_rfl) (by kernel_rfl) (by kernel_rfl) (fun _ _ _ h => h) (Or.inl ⟨by kernel_rfl, fun u hSw => (by go_simp)⟩) hS ?_
                      change wpAnyH _ _ _ _ _ _ _ (Act.put _ (some 99) _) _
                      simp only [Act.put]
                      refine wpAnyH_take (i := 17) (v := .bool true) rfl (by kernel_rfl) (by kernel_rfl) (by kernel_rfl) (fun _ _ _ h => h) (Or.inl ⟨by kernel_rfl, fun u hSw => (by go_simp)⟩) hS ?_
                      change wpAnyH _ _ _ _ _ _ _ (Act.put _ (some 100) _) _
                      simp only [Act.put]
                      refine wpAnyH_take (i := 18) (v := .bool true) rfl (by kernel_rfl) (by kernel_rfl) (by kernel_rfl) (fun _ _ _ h => h) (Or.inl ⟨by kernel_rfl, fun u hSw => (by go_simp)⟩) hS ?_
                      change wpAnyH _ _ _ _ _ _ _ (Act.put _ (some 101) _) _
                      simp only [Act.put]
                      refine wpAnyH_take (i := 19) (v := undef) rfl (by kernel_rfl) (by kernel_rfl) (by kernel_rfl) (fun _ _ _ h => h) (Or.inr ⟨by kernel_rfl, rfl⟩) hS ?_
                      change wpAnyH _ _ _ _ _ _ _ (Act.put _ (some 102) _) _
                      simp only [Act.put]
                      refine wpAnyH_take (i := 20) (v := undef) rfl (by kernel_rfl) (by kernel_rfl) (by kernel_rfl) (fun _ _ _ h => h) (Or.inr ⟨by kernel_rfl, rfl⟩) hS ?_
                      change wpAnyH _ _ _ _ _ _ _ (Act.put _ (some 103) _) _
                      simp only [Act.put]
                      refine wpAnyH_take (i := 21) (v := undef) rfl (by kernel_rfl) (by kernel_rfl) (by kernel_rfl) (fun _ _ _ h => h) (Or.inr ⟨by kernel_rfl, rfl⟩) hS ?_
                      change wpAnyH _ _ _ _ _ _ _ (Act.put _ (some 104) _) _
                      simp only [Act.put]
                      refine wpAnyH_take (i := 22) (v := undef) rfl (by kernel_rfl) (by kernel_rfl) (by kernel_rfl) (fun _ _ _ h => h) (Or.inr ⟨by kernel_rfl, rfl⟩) hS ?_
                      change wpAnyH _ _ _ _ _ _ _ (Act.put _ (some 105) _) _
                      simp only [Act.put]
                      refine wpAnyH_take (i := 23) (v := undef) rfl (by kernel_rfl) (by kernel_rfl) (by kernel_rfl) (fun _ _ _ h => h) (Or.inr ⟨by kernel_rfl, rfl⟩) hS ?_
                      change wpAnyH _ _ _ _ _ _ _ (Act.put _ (some 106) _) _
                      simp only [Act.put]
                      refine wpAnyH_take (i := 24) (v := undef) rfl (by kernel_rfl) (by kernel_rfl) (by kernel_rfl) (fun _ _ _ h => h) (Or.inr ⟨by kernel_rfl, rfl⟩) hS ?_
                      change wpAnyH _ _ _ _ _ _ _ (Act.put _ (some 107) _) _
                      simp only [Act.put]
                      refine wpAnyH_take (i := 25) (v := undef) rfl (by kernel_rfl) (by kernel_rfl) (by kernel_rfl) (fun _ _ _ h => h) (Or.inr ⟨by kernel_rfl, rfl⟩) hS ?_
                      change wpAnyH _ _ _ _ _ _ _ (Act.put _ (some 108) _) _
                      simp only [Act.put]
                      refine wpAnyH_take (i := 26) (v := undef) rfl (by kernel_rfl) (by kernel_rfl) (by kernel_rfl) (fun _ _ _ h => h) (Or.inr ⟨by kernel_rfl, rfl⟩) hS ?_
                      change wpAnyH _ _ _ _ _ _ _ (Act.put _ (some 109) _) _
                      simp only [Act.put]
                      refine wpAnyH_take (i := 27) (v := undef) rfl (by kernel_rfl) (by kernel_rfl) (by kernel_rfl) (fun _ _ _ h => h) (Or.inr ⟨by kernel_rfl, rfl⟩) hS ?_
                      change wpAnyH _ _ _ _ _ _ _ (Act.put _ (some 110) _) _
                      simp only [Act.put]
                      refine wpAnyH_take (i := 28) (v := undef) rfl (by kernel_rfl) (by kernel_rfl) (by kernel_rfl) (fun _ _ _ h => h) (Or.inr ⟨by kernel_rfl, rfl⟩) hS ?_
                      change wpAnyH _ _ _ _ _ _ _ (Act.put _ (some 111) _) _
                      simp only [Act.put]
                      refine wpAnyH_take (i := 29) (v := undef) rfl (by kernel_rfl) (by kernel_rfl) (by kernel_rfl) (fun _ _ _ h => h) (Or.inr ⟨by kernel_rfl, rfl⟩) hS ?_
                      change wpAnyH _ _ _ _ _ _ _ (Act.put _ (some 112) _) _
                      simp only [Act.put]
                      refine wpAnyH_take (i := 30) (v := undef) rfl (by kernel_rfl) (by kernel_rfl) (by kernel_rfl) (fun _ _ _ h => h) (Or.inr ⟨by kernel_rfl, rfl⟩) hS ?_
                      change wpAnyH _ _ _ _ _ _ _ (Act.put _ (some 113) _) _
                      simp only [Act.put]
                      refine wpAnyH_take (i := 31) (v := undef) rfl (by kernel_rfl) (by kernel_rfl) (by kernel_rfl) (fun _ _ _ h => h) (Or.inr ⟨by kernel_rfl, rfl⟩) hS ?_
                      change wpAnyH _ _ _ _ _ _ _ (Act.put _ (some 114) _) _
                      simp only [Act.put]
                      refine wpAnyH_take (i := 32) (v := undef) rfl (by kernel_rfl) (by kernel_rfl) (by kernel_rfl) (fun _ _ _ h => h) (Or.inr ⟨by kernel_rfl, rfl⟩) hS ?_
                      change wpAnyH _ _ _ _ _ _ _ (Act.put _ (some 115) _) _
                      simp only [Act.put]
                      refine wpAnyH_take (i := 33) (v := .bool true) rfl (by kernel_rfl) (by kernel_rfl) (by kernel_rfl) (fun _ _ _ h => h) (Or.inl ⟨by kernel_rfl, fun u hSw => (by go_simp)⟩) hS ?_
                      change wpAnyH _ _ _ _ _ _ _ (Act.put _ (some 116) _) _
                      simp only [Act.put]
                      refine wpAnyH_done (by kernel_rfl) ?_ _
                      clear hS
                      go_simp
                      have HB := Lib.hid GB
                      clear GB KB KV
                      go_wp2
                      go_ret
                      exact ⟨retB HV.out.symm, HB.out⟩
                    | true =>
                      rw [hm] at HRM
                      by_cases hi : i = 0
                      · have ip : decide ((0 : Int) < (i : Int)) = false := decide_eq_false (by omega)
                        have HIp := Lib.hid hi
                        have HN := Lib.hid (allK_step HA.out (by rw [hok, hm]; simp [y0, y16, hi]))
                        clear hok hno y0 y16 hm hi
                        have k0 := KB.cell 0
                        have k1 : wr.cell? ⟨w.heap.size, 1, none⟩ = some (.slice (some bd) m d) := KB.cell 1
                        obtain ⟨q0, q1, q2, q3⟩ := HX.out _ GB
                        have KB1 := KB.alloc (.cells #[.int .i64 y1, .int .i64 y2, .int .u32 (y3 : Int), .int .u32 (y4 : Int)] 50)
                        have GB1 := GB.alloc GB.size (.cells #[.int .i64 y1, .int .i64 y2, .int .u32 (y3 : Int), .int .u32 (y4 : Int)] 50)
                        have KV1 := Blk.new wr 50 #[.int .i64 y1, .int .i64 y2, .int .u32 (y3 : Int), .int .u32 (y4 : Int)]
                        have l0 := KB1.cell 0
                        have l1 := KB1.cell 1
                        clear KB GB
                        go_wp2_with fail
                        refine (HDo.out _ GB1).mono ?_
                        rw [HDv.out]
                        rintro e1 w1 ⟨rfl, h9⟩
                        have KB := (KB1.below h9 KB1.lt).alloc (.cells #[.int .i64 a, .int .i64 b, .int .i64 e, .int .i64 f] 27)
                        have KV := (KV1.below h9 KV1.lt).alloc (.cells #[.int .i64 a, .int .i64 b, .int .i64 e, .int .i64 f] 27)
                        have GB := (GB1.trans (h9.mono GB1.size)).alloc (GB1.trans (h9.mono GB1.size)).size (.cells #[.int .i64 a, .int .i64 b, .int .i64 e, .int .i64 f] 27)
                        clear h9 KB1 KV1 GB1 k0 k1 q0 q1 q2 q3 l0 l1
                        go_upto_region 13 with fail
                        generalize wr.heap.size = gv at KV ⊢
                        generalize w1.alloc (.cells #[.int .i64 a, .int .i64 b, .int .i64 e, .int .i64 f] 27) = W9 at KB KV GB ⊢
                        replace GB := GB.drew
                        replace KB : Blk W9.drew _ _ _ := KB
                        replace KV : Blk W9.drew _ _ _ := KV
                        refine wp_region_held_drew (S := fun u => Below w.heap.size w u ∧ Blk u w.heap.size 25 #[.slice A n c, .slice (some bd) m d] ∧ Blk u gv 50 #[.int .i64 y1, .int .i64 y2, .int .u32 (y3 : Int), .int .u32 (y4 : Int)]) (by kernel_rfl) ⟨GB, KB, KV⟩ (fun hS => ?_)
                        generalize W9.drew = V at GB KB KV hS ⊢
                        refine wpAnyH_take (i := 0) (v := .pointer (some ⟨gv, 0, none⟩)) rfl (by kernel_rfl) (by kernel_rfl) (by kernel_rfl) (fun _ _ _ h => h) (Or.inl ⟨by kernel_rfl, fun u hSw => (by go_simp)⟩) hS ?_
                        change wpAnyH _ _ _ _ _ _ _ (Act.put _ (some 83) _) _
                        simp only [Act.put]
                        refine wpAnyH_take (i := 1) (v := .int .i64 y1) rfl (by kernel_rfl) (by kernel_rfl) (by kernel_rfl) (fun _ _ _ h => h) (Or.inl ⟨by kernel_rfl, fun u hSw => (by have q := hSw.2.2.cell 0; go_simp)⟩) hS ?_
                        change wpAnyH _ _ _ _ _ _ _ (Act.put _ (some 84) _) _
                        simp only [Act.put]
                        refine wpAnyH_take (i := 2) (v := .bool false) rfl (by kernel_rfl) (by kernel_rfl) (by kernel_rfl) (fun _ _ _ h => h) (Or.inl ⟨by kernel_rfl, fun u hSw => (by go_simp)⟩) hS ?_
                        change wpAnyH _ _ _ _ _ _ _ (Act.put _ (some 85) _) _
                        simp only [Act.put]
                        refine wpAnyH_take (i := 3) (v := .bool false) rfl (by kernel_rfl) (by kernel_rfl) (by kernel_rfl) (fun _ _ _ h => h) (Or.inl ⟨by kernel_rfl, fun u hSw => (by go_simp)⟩) hS ?_
                        change wpAnyH _ _ _ _ _ _ _ (Act.put _ (some 86) _) _
                        simp only [Act.put]
                        refine wpAnyH_take (i := 4) (v := .pointer (some ⟨gv, 0, none⟩)) rfl (by kernel_rfl) (by kernel_rfl) (by kernel_rfl) (fun _ _ _ h => h) (Or.inl ⟨by kernel_rfl, fun u hSw => (by go_simp)⟩) hS ?_
                        change wpAnyH _ _ _ _ _ _ _ (Act.put _ (some 87) _) _
                        simp only [Act.put]
                        refine wpAnyH_take (i := 5) (v := .int .i64 y1) rfl (by kernel_rfl) (by kernel_rfl) (by kernel_rfl) (fun _ _ _ h => h) (Or.inl ⟨by kernel_rfl, fun u hSw => (by have q := hSw.2.2.cell 0; go_simp)⟩) hS ?_
                        change wpAnyH _ _ _ _ _ _ _ (Act.put _ (some 88) _) _
                        simp only [Act.put]
                        refine wpAnyH_take (i := 6) (v := .bool false) rfl (by kernel_rfl) (by kernel_rfl) (by kernel_rfl) (fun _ _ _ h => h) (Or.inl ⟨by kernel_rfl, fun u hSw => (by go_simp)⟩) hS ?_
                        change wpAnyH _ _ _ _ _ _ _ (Act.put _ (some 89) _) _
                        simp only [Act.put]
                        refine wpAnyH_take (i := 7) (v := .bool false) rfl (by kernel_rfl) (by kernel_rfl) (by kernel_rfl) (fun _ _ _ h => h) (Or.inl ⟨by kernel_rfl, fun u hSw => (by go_simp)⟩) hS ?_
                        change wpAnyH _ _ _ _ _ _ _ (Act.put _ (some 90) _) _
                        simp only [Act.put]
                        refine wpAnyH_take (i := 8) (v := .bool false) rfl (by kernel_rfl) (by kernel_rfl) (by kernel_rfl) (fun _ _ _ h => h) (Or.inl ⟨by kernel_rfl, fun u hSw => (by go_simp)⟩) hS ?_
                        change wpAnyH _ _ _ _ _ _ _ (Act.put _ (some 91) _) _
                        simp only [Act.put]
                        refine wpAnyH_take (i := 9) (v := .bool true) rfl (by kernel_rfl) (by kernel_rfl) (by kernel_rfl) (fun _ _ _ h => h) (Or.inl ⟨by kernel_rfl, fun u hSw => (by go_simp)⟩) hS ?_
                        change wpAnyH _ _ _ _ _ _ _ (Act.put _ (some 92) _) _
                        simp only [Act.put]
                        refine wpAnyH_take (i := 10) (v := .bool false) rfl (by kernel_rfl) (by kernel_rfl) (by kernel_rfl) (fun _ _ _ h => h) (Or.inl ⟨by kernel_rfl, fun u hSw => (by go_simp)⟩) hS ?_
                        change wpAnyH _ _ _ _ _ _ _ (Act.put _ (some 93) _) _
                        simp only [Act.put]
                        refine wpAnyH_take (i := 11) (v := .bool false) rfl (by kernel_rfl) (by kernel_rfl) (by kernel_rfl) (fun _ _ _ h => h) (Or.inl ⟨by kernel_rfl, fun u hSw => (by go_simp)⟩) hS ?_
                        change wpAnyH _ _ _ _ _ _ _ (Act.put _ (some 94) _) _
                        simp only [Act.put]
                        refine wpAnyH_take (i := 12) (v := .bool false) rfl (by kernel_rfl) (by kernel_rfl) (by kernel_rfl) (fun _ _ _ h => h) (Or.inl ⟨by kernel_rfl, fun u hSw => (by go_simp)⟩) hS ?_
                        change wpAnyH _ _ _ _ _ _ _ (Act.put _ (some 95) _) _
                        simp only [Act.put]
                        refine wpAnyH_take (i := 13) (v := .pointer (some ⟨gv, 2, none⟩)) rfl (by kernel_rfl) (by kernel_rfl) (by kernel_rfl) (fun _ _ _ h => h) (Or.inl ⟨by kernel_rfl, fun u hSw => (by go_simp)⟩) hS ?_
                        change wpAnyH _ _ _ _ _ _ _ (Act.put _ (some 96) _) _
                        simp only [Act.put]
                        refine wpAnyH_take (i := 14) (v := .agg #[.int .u32 (y3 : Int), .int .u32 (y4 : Int)]) rfl (by kernel_rfl) (by kernel_rfl) (by kernel_rfl) (fun _ _ _ h => h) (Or.inl ⟨by kernel_rfl, fun u hSw => (by have q := hSw.2.2.cell 2; have q1 := hSw.2.2.cell 3; go_simp)⟩) hS ?_
                        change wpAnyH _ _ _ _ _ _ _ (Act.put _ (some 97) _) _
                        simp only [Act.put]
                        refine wpAnyH_ready (rs := [15]) (by kernel_rfl) (by simp) ?_
                        refine AllReadyH.cons rfl (fun K hK => ?_) AllReadyH.nil
                        go_simp
                        refine (HRM.out _).mono ?_
                        rintro e1 w3 ⟨rfl, h9⟩
                        replace KB := KB.below h9 KB.lt
                        replace KV := KV.below h9 KV.lt
                        replace GB := GB.trans (h9.mono GB.size)
                        clear h9
                        refine hK.out _ _ ⟨GB, KB, KV⟩ (fun hS => ?_)
                        clear hK K
                        refine wpAnyH_take (i := 16) (v := .bool false) rfl (by kernel_rfl) (by kernel_rfl) (by kernel_rfl) (fun _ _ _ h => h) (Or.inl ⟨by kernel_rfl, fun u hSw => (by go_simp)⟩) hS ?_
                        change wpAnyH _ _ _ _ _ _ _ (Act.put _ (some 99) _) _
                        simp only [Act.put]
                        refine wpAnyH_take (i := 17) (v := .bool false) rfl (by kernel_rfl) (by kernel_rfl) (by kernel_rfl) (fun _ _ _ h => h) (Or.inl ⟨by kernel_rfl, fun u hSw => (by go_simp)⟩) hS ?_
                        change wpAnyH _ _ _ _ _ _ _ (Act.put _ (some 100) _) _
                        simp only [Act.put]
                        refine wpAnyH_take (i := 18) (v := .bool false) rfl (by kernel_rfl) (by kernel_rfl) (by kernel_rfl) (fun _ _ _ h => h) (Or.inl ⟨by kernel_rfl, fun u hSw => (by go_simp)⟩) hS ?_
                        change wpAnyH _ _ _ _ _ _ _ (Act.put _ (some 101) _) _
                        simp only [Act.put]
                        refine wpAnyH_take (i := 19) (v := .int .i64 (i : Int)) rfl (by kernel_rfl) (by kernel_rfl) (by kernel_rfl) (fun _ _ _ h => h) (Or.inl ⟨by kernel_rfl, fun u hSw => (by go_simp)⟩) hS ?_
                        change wpAnyH _ _ _ _ _ _ _ (Act.put _ (some 102) _) _
                        simp only [Act.put]
                        refine wpAnyH_take (i := 20) (v := .bool false) rfl (by kernel_rfl) (by kernel_rfl) (by kernel_rfl) (fun _ _ _ h => h) (Or.inl ⟨by kernel_rfl, fun u hSw => (by go_simp; exact HIp.out)⟩) hS ?_
                        change wpAnyH _ _ _ _ _ _ _ (Act.put _ (some 103) _) _
                        simp only [Act.put]
                        refine wpAnyH_take (i := 21) (v := .bool false) rfl (by kernel_rfl) (by kernel_rfl) (by kernel_rfl) (fun _ _ _ h => h) (Or.inl ⟨by kernel_rfl, fun u hSw => (by go_simp)⟩) hS ?_
                        change wpAnyH _ _ _ _ _ _ _ (Act.put _ (some 104) _) _
                        simp only [Act.put]
                        refine wpAnyH_take (i := 22) (v := undef) rfl (by kernel_rfl) (by kernel_rfl) (by kernel_rfl) (fun _ _ _ h => h) (Or.inr ⟨by kernel_rfl, rfl⟩) hS ?_
                        change wpAnyH _ _ _ _ _ _ _ (Act.put _ (some 105) _) _
                        simp only [Act.put]
                        refine wpAnyH_take (i := 23) (v := undef) rfl (by kernel_rfl) (by kernel_rfl) (by kernel_rfl) (fun _ _ _ h => h) (Or.inr ⟨by kernel_rfl, rfl⟩) hS ?_
                        change wpAnyH _ _ _ _ _ _ _ (Act.put _ (some 106) _) _
                        simp only [Act.put]
                        refine wpAnyH_take (i := 24) (v := undef) rfl (by kernel_rfl) (by kernel_rfl) (by kernel_rfl) (fun _ _ _ h => h) (Or.inr ⟨by kernel_rfl, rfl⟩) hS ?_
                        change wpAnyH _ _ _ _ _ _ _ (Act.put _ (some 107) _) _
                        simp only [Act.put]
                        refine wpAnyH_take (i := 25) (v := undef) rfl (by kernel_rfl) (by kernel_rfl) (by kernel_rfl) (fun _ _ _ h => h) (Or.inr ⟨by kernel_rfl, rfl⟩) hS ?_
                        change wpAnyH _ _ _ _ _ _ _ (Act.put _ (some 108) _) _
                        simp only [Act.put]
                        refine wpAnyH_take (i := 26) (v := undef) rfl (by kernel_rfl) (by kernel_rfl) (by kernel_rfl) (fun _ _ _ h => h) (Or.inr ⟨by kernel_rfl, rfl⟩) hS ?_
                        change wpAnyH _ _ _ _ _ _ _ (Act.put _ (some 109) _) _
                        simp only [Act.put]
                        refine wpAnyH_take (i := 27) (v := undef) rfl (by kernel_rfl) (by kernel_rfl) (by kernel_rfl) (fun _ _ _ h => h) (Or.inr ⟨by kernel_rfl, rfl⟩) hS ?_
                        change wpAnyH _ _ _ _ _ _ _ (Act.put _ (some 110) _) _
                        simp only [Act.put]
                        refine wpAnyH_take (i := 28) (v := undef) rfl (by kernel_rfl) (by kernel_rfl) (by kernel_rfl) (fun _ _ _ h => h) (Or.inr ⟨by kernel_rfl, rfl⟩) hS ?_
                        change wpAnyH _ _ _ _ _ _ _ (Act.put _ (some 111) _) _
                        simp only [Act.put]
                        refine wpAnyH_take (i := 29) (v := undef) rfl (by kernel_rfl) (by kernel_rfl) (by kernel_rfl) (fun _ _ _ h => h) (Or.inr ⟨by kernel_rfl, rfl⟩) hS ?_
                        change wpAnyH _ _ _ _ _ _ _ (Act.put _ (some 112) _) _
                        simp only [Act.put]
                        refine wpAnyH_take (i := 30) (v := undef) rfl (by kernel_rfl) (by kernel_rfl) (by kernel_rfl) (fun _ _ _ h => h) (Or.inr ⟨by kernel_rfl, rfl⟩) hS ?_
                        change wpAnyH _ _ _ _ _ _ _ (Act.put _ (some 113) _) _
                        simp only [Act.put]
                        refine wpAnyH_take (i := 31) (v := undef) rfl (by kernel_rfl) (by kernel_rfl) (by kernel_rfl) (fun _ _ _ h => h) (Or.inr ⟨by kernel_rfl, rfl⟩) hS ?_
                        change wpAnyH _ _ _ _ _ _ _ (Act.put _ (some 114) _) _
                        simp only [Act.put]
                        refine wpAnyH_take (i := 32) (v := .bool false) rfl (by kernel_rfl) (by kernel_rfl) (by kernel_rfl) (fun _ _ _ h => h) (Or.inl ⟨by kernel_rfl, fun u hSw => (by go_simp)⟩) hS ?_
                        change wpAnyH _ _ _ _ _ _ _ (Act.put _ (some 115) _) _
                        simp only [Act.put]
                        refine wpAnyH_take (i := 33) (v := .bool false) rfl (by kernel_rfl) (by kernel_rfl) (by kernel_rfl) (fun _ _ _ h => h) (Or.inl ⟨by kernel_rfl, fun u hSw => (by go_simp)⟩) hS ?_
                        change wpAnyH _ _ _ _ _ _ _ (Act.put _ (some 116) _) _
                        simp only [Act.put]
                        refine wpAnyH_done (by kernel_rfl) ?_ _
                        clear hS
                        go_simp
                        have HB := Lib.hid (And.intro KB GB)
                        clear GB KB KV
                        go_wp2
                        go_roundw
                        case rel => exact ⟨i + 1, by omega, by go_num, HN, HB.out.1, HB.out.2⟩
                        case measure => simp [intOf] <;> omega
                      · have ip : decide ((0 : Int) < (i : Int)) = true := decide_eq_true (by omega)
                        have HIp : Hid (0 < i) := Lib.hid (by omega)
                        obtain ⟨j, hj⟩ : ∃ j, i = j + 1 := ⟨i - 1, by omega⟩
                        have ij : (i : Int) - 1 = (j : Int) := by omega
                        have HJw : Hid (IntKind.i64.wrap (j : Int) = (j : Int)) := Lib.hid (by rw [IntKind.wrap_i64]; omega)
                        have j0 : (0 : Int) ≤ (j : Int) := by omega
                        have j1 : (j : Int) < (m : Int) := by omega
                        obtain ⟨⟨p1, p2, p3, p4⟩, hp⟩ := elem_at (l := us) (k := j) (by rw [HL.out.2]; omega)
                        have HP : Hid (∀ u, Below w.heap.size w u → u.cell? (bd.add (j * 4)) = some (.int .i64 p1)) := Lib.hid (fun u h => by
                          obtain ⟨ad2, e, _, q, _⟩ := vc_at (HR.out.vcs.below h) hp
                          injection e with e
                          subst e
                          exact q)
                        rw [show i - 1 = j by omega, vgetD hp] at hok
                        clear hp
                        by_cases hlt2 : p1 < y1
                        · have b2 : decide (y1 ≤ p1) = false := decide_eq_false (by omega)
                          have HN := Lib.hid (allK_step HA.out (by rw [hok, hm]; simp [y0, y16, hlt2]))
                          clear hok hno y0 y16 hm hi hj hlt2
                          have k0 := KB.cell 0
                          have k1 : wr.cell? ⟨w.heap.size, 1, none⟩ = some (.slice (some bd) m d) := KB.cell 1
                          obtain ⟨q0, q1, q2, q3⟩ := HX.out _ GB
                          have KB1 := KB.alloc (.cells #[.int .i64 y1, .int .i64 y2, .int .u32 (y3 : Int), .int .u32 (y4 : Int)] 50)
                          have GB1 := GB.alloc GB.size (.cells #[.int .i64 y1, .int .i64 y2, .int .u32 (y3 : Int), .int .u32 (y4 : Int)] 50)
                          have KV1 := Blk.new wr 50 #[.int .i64 y1, .int .i64 y2, .int .u32 (y3 : Int), .int .u32 (y4 : Int)]
                          have l0 := KB1.cell 0
                          have l1 := KB1.cell 1
                          clear KB GB
                          go_wp2_with fail
                          refine (HDo.out _ GB1).mono ?_
                          rw [HDv.out]
                          rintro e1 w1 ⟨rfl, h9⟩
                          have KB := (KB1.below h9 KB1.lt).alloc (.cells #[.int .i64 a, .int .i64 b, .int .i64 e, .int .i64 f] 27)
                          have KV := (KV1.below h9 KV1.lt).alloc (.cells #[.int .i64 a, .int .i64 b, .int .i64 e, .int .i64 f] 27)
                          have GB := (GB1.trans (h9.mono GB1.size)).alloc (GB1.trans (h9.mono GB1.size)).size (.cells #[.int .i64 a, .int .i64 b, .int .i64 e, .int .i64 f] 27)
                          clear h9 KB1 KV1 GB1 k0 k1 q0 q1 q2 q3 l0 l1
                          go_upto_region 13 with fail
                          generalize wr.heap.size = gv at KV ⊢
                          generalize w1.alloc (.cells #[.int .i64 a, .int .i64 b, .int .i64 e, .int .i64 f] 27) = W9 at KB KV GB ⊢
                          replace GB := GB.drew
                          replace KB : Blk W9.drew _ _ _ := KB
                          replace KV : Blk W9.drew _ _ _ := KV
                          refine wp_region_held_drew (S := fun u => Below w.heap.size w u ∧ Blk u w.heap.size 25 #[.slice A n c, .slice (some bd) m d] ∧ Blk u gv 50 #[.int .i64 y1, .int .i64 y2, .int .u32 (y3 : Int), .int .u32 (y4 : Int)]) (by kernel_rfl) ⟨GB, KB, KV⟩ (fun hS => ?_)
                          generalize W9.drew = V at GB KB KV hS ⊢
                          refine wpAnyH_take (i := 0) (v := .pointer (some ⟨gv, 0, none⟩)) rfl (by kernel_rfl) (by kernel_rfl) (by kernel_rfl) (fun _ _ _ h => h) (Or.inl ⟨by kernel_rfl, fun u hSw => (by go_simp)⟩) hS ?_
                          change wpAnyH _ _ _ _ _ _ _ (Act.put _ (some 83) _) _
                          simp only [Act.put]
                          refine wpAnyH_take (i := 1) (v := .int .i64 y1) rfl (by kernel_rfl) (by kernel_rfl) (by kernel_rfl) (fun _ _ _ h => h) (Or.inl ⟨by kernel_rfl, fun u hSw => (by have q := hSw.2.2.cell 0; go_simp)⟩) hS ?_
                          change wpAnyH _ _ _ _ _ _ _ (Act.put _ (some 84) _) _
                          simp only [Act.put]
                          refine wpAnyH_take (i := 2) (v := .bool false) rfl (by kernel_rfl) (by kernel_rfl) (by kernel_rfl) (fun _ _ _ h => h) (Or.inl ⟨by kernel_rfl, fun u hSw => (by go_simp)⟩) hS ?_
                          change wpAnyH _ _ _ _ _ _ _ (Act.put _ (some 85) _) _
                          simp only [Act.put]
                          refine wpAnyH_take (i := 3) (v := .bool false) rfl (by kernel_rfl) (by kernel_rfl) (by kernel_rfl) (fun _ _ _ h => h) (Or.inl ⟨by kernel_rfl, fun u hSw => (by go_simp)⟩) hS ?_
                          change wpAnyH _ _ _ _ _ _ _ (Act.put _ (some 86) _) _
                          simp only [Act.put]
                          refine wpAnyH_take (i := 4) (v := .pointer (some ⟨gv, 0, none⟩)) rfl (by kernel_rfl) (by kernel_rfl) (by kernel_rfl) (fun _ _ _ h => h) (Or.inl ⟨by kernel_rfl, fun u hSw => (by go_simp)⟩) hS ?_
                          change wpAnyH _ _ _ _ _ _ _ (Act.put _ (some 87) _) _
                          simp only [Act.put]
                          refine wpAnyH_take (i := 5) (v := .int .i64 y1) rfl (by kernel_rfl) (by kernel_rfl) (by kernel_rfl) (fun _ _ _ h => h) (Or.inl ⟨by kernel_rfl, fun u hSw => (by have q := hSw.2.2.cell 0; go_simp)⟩) hS ?_
                          change wpAnyH _ _ _ _ _ _ _ (Act.put _ (some 88) _) _
                          simp only [Act.put]
                          refine wpAnyH_take (i := 6) (v := .bool false) rfl (by kernel_rfl) (by kernel_rfl) (by kernel_rfl) (fun _ _ _ h => h) (Or.inl ⟨by kernel_rfl, fun u hSw => (by go_simp)⟩) hS ?_
                          change wpAnyH _ _ _ _ _ _ _ (Act.put _ (some 89) _) _
                          simp only [Act.put]
                          refine wpAnyH_take (i := 7) (v := .bool false) rfl (by kernel_rfl) (by kernel_rfl) (by kernel_rfl) (fun _ _ _ h => h) (Or.inl ⟨by kernel_rfl, fun u hSw => (by go_simp)⟩) hS ?_
                          change wpAnyH _ _ _ _ _ _ _ (Act.put _ (some 90) _) _
                          simp only [Act.put]
                          refine wpAnyH_take (i := 8) (v := .bool false) rfl (by kernel_rfl) (by kernel_rfl) (by kernel_rfl) (fun _ _ _ h => h) (Or.inl ⟨by kernel_rfl, fun u hSw => (by go_simp)⟩) hS ?_
                          change wpAnyH _ _ _ _ _ _ _ (Act.put _ (some 91) _) _
                          simp only [Act.put]
                          refine wpAnyH_take (i := 9) (v := .bool true) rfl (by kernel_rfl) (by kernel_rfl) (by kernel_rfl) (fun _ _ _ h => h) (Or.inl ⟨by kernel_rfl, fun u hSw => (by go_simp)⟩) hS ?_
                          change wpAnyH _ _ _ _ _ _ _ (Act.put _ (some 92) _) _
                          simp only [Act.put]
                          refine wpAnyH_take (i := 10) (v := .bool false) rfl (by kernel_rfl) (by kernel_rfl) (by kernel_rfl) (fun _ _ _ h => h) (Or.inl ⟨by kernel_rfl, fun u hSw => (by go_simp)⟩) hS ?_
                          change wpAnyH _ _ _ _ _ _ _ (Act.put _ (some 93) _) _
                          simp only [Act.put]
                          refine wpAnyH_take (i := 11) (v := .bool false) rfl (by kernel_rfl) (by kernel_rfl) (by kernel_rfl) (fun _ _ _ h => h) (Or.inl ⟨by kernel_rfl, fun u hSw => (by go_simp)⟩) hS ?_
                          change wpAnyH _ _ _ _ _ _ _ (Act.put _ (some 94) _) _
                          simp only [Act.put]
                          refine wpAnyH_take (i := 12) (v := .bool false) rfl (by kernel_rfl) (by kernel_rfl) (by kernel_rfl) (fun _ _ _ h => h) (Or.inl ⟨by kernel_rfl, fun u hSw => (by go_simp)⟩) hS ?_
                          change wpAnyH _ _ _ _ _ _ _ (Act.put _ (some 95) _) _
                          simp only [Act.put]
                          refine wpAnyH_take (i := 13) (v := .pointer (some ⟨gv, 2, none⟩)) rfl (by kernel_rfl) (by kernel_rfl) (by kernel_rfl) (fun _ _ _ h => h) (Or.inl ⟨by kernel_rfl, fun u hSw => (by go_simp)⟩) hS ?_
                          change wpAnyH _ _ _ _ _ _ _ (Act.put _ (some 96) _) _
                          simp only [Act.put]
                          refine wpAnyH_take (i := 14) (v := .agg #[.int .u32 (y3 : Int), .int .u32 (y4 : Int)]) rfl (by kernel_rfl) (by kernel_rfl) (by kernel_rfl) (fun _ _ _ h => h) (Or.inl ⟨by kernel_rfl, fun u hSw => (by have q := hSw.2.2.cell 2; have q1 := hSw.2.2.cell 3; go_simp)⟩) hS ?_
                          change wpAnyH _ _ _ _ _ _ _ (Act.put _ (some 97) _) _
                          simp only [Act.put]
                          refine wpAnyH_ready (rs := [15]) (by kernel_rfl) (by simp) ?_
                          refine AllReadyH.cons rfl (fun K hK => ?_) AllReadyH.nil
                          go_simp
                          refine (HRM.out _).mono ?_
                          rintro e1 w3 ⟨rfl, h9⟩
                          replace KB := KB.below h9 KB.lt
                          replace KV := KV.below h9 KV.lt
                          replace GB := GB.trans (h9.mono GB.size)
                          clear h9
                          refine hK.out _ _ ⟨GB, KB, KV⟩ (fun hS => ?_)
                          clear hK K
                          refine wpAnyH_take (i := 16) (v := .bool false) rfl (by kernel_rfl) (by kernel_rfl) (by kernel_rfl) (fun _ _ _ h => h) (Or.inl ⟨by kernel_rfl, fun u hSw => (by go_simp)⟩) hS ?_
                          change wpAnyH _ _ _ _ _ _ _ (Act.put _ (some 99) _) _
                          simp only [Act.put]
                          refine wpAnyH_take (i := 17) (v := .bool false) rfl (by kernel_rfl) (by kernel_rfl) (by kernel_rfl) (fun _ _ _ h => h) (Or.inl ⟨by kernel_rfl, fun u hSw => (by go_simp)⟩) hS ?_
                          change wpAnyH _ _ _ _ _ _ _ (Act.put _ (some 100) _) _
                          simp only [Act.put]
                          refine wpAnyH_take (i := 18) (v := .bool false) rfl (by kernel_rfl) (by kernel_rfl) (by kernel_rfl) (fun _ _ _ h => h) (Or.inl ⟨by kernel_rfl, fun u hSw => (by go_simp)⟩) hS ?_
                          change wpAnyH _ _ _ _ _ _ _ (Act.put _ (some 101) _) _
                          simp only [Act.put]
                          refine wpAnyH_take (i := 19) (v := .int .i64 (i : Int)) rfl (by kernel_rfl) (by kernel_rfl) (by kernel_rfl) (fun _ _ _ h => h) (Or.inl ⟨by kernel_rfl, fun u hSw => (by go_simp)⟩) hS ?_
                          change wpAnyH _ _ _ _ _ _ _ (Act.put _ (some 102) _) _
                          simp only [Act.put]
                          refine wpAnyH_take (i := 20) (v := .bool true) rfl (by kernel_rfl) (by kernel_rfl) (by kernel_rfl) (fun _ _ _ h => h) (Or.inl ⟨by kernel_rfl, fun u hSw => (by go_simp; exact HIp.out)⟩) hS ?_
                          change wpAnyH _ _ _ _ _ _ _ (Act.put _ (some 103) _) _
                          simp only [Act.put]
                          refine wpAnyH_take (i := 21) (v := .bool true) rfl (by kernel_rfl) (by kernel_rfl) (by kernel_rfl) (fun _ _ _ h => h) (Or.inl ⟨by kernel_rfl, fun u hSw => (by go_simp)⟩) hS ?_
                          change wpAnyH _ _ _ _ _ _ _ (Act.put _ (some 104) _) _
                          simp only [Act.put]
                          refine wpAnyH_take (i := 22) (v := .pointer (some ⟨w.heap.size, 1, none⟩)) rfl (by kernel_rfl) (by kernel_rfl) (by kernel_rfl) (fun _ _ _ h => h) (Or.inl ⟨by kernel_rfl, fun u hSw => (by go_simp)⟩) hS ?_
                          change wpAnyH _ _ _ _ _ _ _ (Act.put _ (some 105) _) _
                          simp only [Act.put]
                          refine wpAnyH_take (i := 23) (v := .slice (some bd) m d) rfl (by kernel_rfl) (by kernel_rfl) (by kernel_rfl) (fun _ _ _ h => h) (Or.inl ⟨by kernel_rfl, fun u hSw => (by have q := hSw.2.1.cell 1; go_simp)⟩) hS ?_
                          change wpAnyH _ _ _ _ _ _ _ (Act.put _ (some 106) _) _
                          simp only [Act.put]
                          refine wpAnyH_take (i := 24) (v := .int .i64 (i : Int)) rfl (by kernel_rfl) (by kernel_rfl) (by kernel_rfl) (fun _ _ _ h => h) (Or.inl ⟨by kernel_rfl, fun u hSw => (by go_simp)⟩) hS ?_
                          change wpAnyH _ _ _ _ _ _ _ (Act.put _ (some 107) _) _
                          simp only [Act.put]
                          refine wpAnyH_take (i := 25) (v := .int .i64 (j : Int)) rfl (by kernel_rfl) (by kernel_rfl) (by kernel_rfl) (fun _ _ _ h => h) (Or.inl ⟨by kernel_rfl, fun u hSw => (by go_simp; exact HJw.out)⟩) hS ?_
                          change wpAnyH _ _ _ _ _ _ _ (Act.put _ (some 108) _) _
                          simp only [Act.put]
                          refine wpAnyH_take (i := 26) (v := .pointer (some (bd.add (j * 4)))) rfl (by kernel_rfl) (by kernel_rfl) (by kernel_rfl) (fun _ _ _ h => h) (Or.inl ⟨by kernel_rfl, fun u hSw => (by go_simp)⟩) hS ?_
                          change wpAnyH _ _ _ _ _ _ _ (Act.put _ (some 109) _) _
                          simp only [Act.put]
                          refine wpAnyH_take (i := 27) (v := .pointer (some (bd.add (j * 4)))) rfl (by kernel_rfl) (by kernel_rfl) (by kernel_rfl) (fun _ _ _ h => h) (Or.inl ⟨by kernel_rfl, fun u hSw => (by go_simp)⟩) hS ?_
                          change wpAnyH _ _ _ _ _ _ _ (Act.put _ (some 110) _) _
                          simp only [Act.put]
                          refine wpAnyH_take (i := 28) (v := .int .i64 p1) rfl (by kernel_rfl) (by kernel_rfl) (by kernel_rfl) (fun _ _ _ h => h) (Or.inl ⟨by kernel_rfl, fun u hSw => (by have q := HP.out u hSw.1; go_simp)⟩) hS ?_
                          change wpAnyH _ _ _ _ _ _ _ (Act.put _ (some 111) _) _
                          simp only [Act.put]
                          refine wpAnyH_take (i := 29) (v := .pointer (some ⟨gv, 0, none⟩)) rfl (by kernel_rfl) (by kernel_rfl) (by kernel_rfl) (fun _ _ _ h => h) (Or.inl ⟨by kernel_rfl, fun u hSw => (by go_simp)⟩) hS ?_
                          change wpAnyH _ _ _ _ _ _ _ (Act.put _ (some 112) _) _
                          simp only [Act.put]
                          refine wpAnyH_take (i := 30) (v := .int .i64 y1) rfl (by kernel_rfl) (by kernel_rfl) (by kernel_rfl) (fun _ _ _ h => h) (Or.inl ⟨by kernel_rfl, fun u hSw => (by have q := hSw.2.2.cell 0; go_simp)⟩) hS ?_
                          change wpAnyH _ _ _ _ _ _ _ (Act.put _ (some 113) _) _
                          simp only [Act.put]
                          refine wpAnyH_take (i := 31) (v := .bool false) rfl (by kernel_rfl) (by kernel_rfl) (by kernel_rfl) (fun _ _ _ h => h) (Or.inl ⟨by kernel_rfl, fun u hSw => (by go_simp)⟩) hS ?_
                          change wpAnyH _ _ _ _ _ _ _ (Act.put _ (some 114) _) _
                          simp only [Act.put]
                          refine wpAnyH_take (i := 32) (v := .bool false) rfl (by kernel_rfl) (by kernel_rfl) (by kernel_rfl) (fun _ _ _ h => h) (Or.inl ⟨by kernel_rfl, fun u hSw => (by go_simp)⟩) hS ?_
                          change wpAnyH _ _ _ _ _ _ _ (Act.put _ (some 115) _) _
                          simp only [Act.put]
                          refine wpAnyH_take (i := 33) (v := .bool false) rfl (by kernel_rfl) (by kernel_rfl) (by kernel_rfl) (fun _ _ _ h => h) (Or.inl ⟨by kernel_rfl, fun u hSw => (by go_simp)⟩) hS ?_
                          change wpAnyH _ _ _ _ _ _ _ (Act.put _ (some 116) _) _
                          simp only [Act.put]
                          refine wpAnyH_done (by kernel_rfl) ?_ _
                          clear hS
                          go_simp
                          have HB := Lib.hid (And.intro KB GB)
                          clear GB KB KV
                          go_wp2
                          go_roundw
                          case rel => exact ⟨i + 1, by omega, by go_num, HN, HB.out.1, HB.out.2⟩
                          case measure => simp [intOf] <;> omega
                        · have b2 : decide (y1 ≤ p1) = true := decide_eq_true (by omega)
                          have HV := Lib.hid (hno (by rw [hok]; simp [hlt2, hi]))
                          clear hok hno y0 y16 hm hi hj hlt2
                          have k0 := KB.cell 0
                          have k1 : wr.cell? ⟨w.heap.size, 1, none⟩ = some (.slice (some bd) m d) := KB.cell 1
                          obtain ⟨q0, q1, q2, q3⟩ := HX.out _ GB
                          have KB1 := KB.alloc (.cells #[.int .i64 y1, .int .i64 y2, .int .u32 (y3 : Int), .int .u32 (y4 : Int)] 50)
                          have GB1 := GB.alloc GB.size (.cells #[.int .i64 y1, .int .i64 y2, .int .u32 (y3 : Int), .int .u32 (y4 : Int)] 50)
                          have KV1 := Blk.new wr 50 #[.int .i64 y1, .int .i64 y2, .int .u32 (y3 : Int), .int .u32 (y4 : Int)]
                          have l0 := KB1.cell 0
                          have l1 := KB1.cell 1
                          clear KB GB
                          go_wp2_with fail
                          refine (HDo.out _ GB1).mono ?_
                          rw [HDv.out]
                          rintro e1 w1 ⟨rfl, h9⟩
                          have KB := (KB1.below h9 KB1.lt).alloc (.cells #[.int .i64 a, .int .i64 b, .int .i64 e, .int .i64 f] 27)
                          have KV := (KV1.below h9 KV1.lt).alloc (.cells #[.int .i64 a, .int .i64 b, .int .i64 e, .int .i64 f] 27)
                          have GB := (GB1.trans (h9.mono GB1.size)).alloc (GB1.trans (h9.mono GB1.size)).size (.cells #[.int .i64 a, .int .i64 b, .int .i64 e, .int .i64 f] 27)
                          clear h9 KB1 KV1 GB1 k0 k1 q0 q1 q2 q3 l0 l1
                          go_upto_region 13 with fail
                          generalize wr.heap.size = gv at KV ⊢
                          generalize w1.alloc (.cells #[.int .i64 a, .int .i64 b, .int .i64 e, .int .i64 f] 27) = W9 at KB KV GB ⊢
                          replace GB := GB.drew
                          replace KB : Blk W9.drew _ _ _ := KB
                          replace KV : Blk W9.drew _ _ _ := KV
                          refine wp_region_held_drew (S := fun u => Below w.heap.size w u ∧ Blk u w.heap.size 25 #[.slice A n c, .slice (some bd) m d] ∧ Blk u gv 50 #[.int .i64 y1, .int .i64 y2, .int .u32 (y3 : Int), .int .u32 (y4 : Int)]) (by kernel_rfl) ⟨GB, KB, KV⟩ (fun hS => ?_)
                          generalize W9.drew = V at GB KB KV hS ⊢
                          refine wpAnyH_take (i := 0) (v := .pointer (some ⟨gv, 0, none⟩)) rfl (by kernel_rfl) (by kernel_rfl) (by kernel_rfl) (fun _ _ _ h => h) (Or.inl ⟨by kernel_rfl, fun u hSw => (by go_simp)⟩) hS ?_
                          change wpAnyH _ _ _ _ _ _ _ (Act.put _ (some 83) _) _
                          simp only [Act.put]
                          refine wpAnyH_take (i := 1) (v := .int .i64 y1) rfl (by kernel_rfl) (by kernel_rfl) (by kernel_rfl) (fun _ _ _ h => h) (Or.inl ⟨by kernel_rfl, fun u hSw => (by have q := hSw.2.2.cell 0; go_simp)⟩) hS ?_
                          change wpAnyH _ _ _ _ _ _ _ (Act.put _ (some 84) _) _
                          simp only [Act.put]
                          refine wpAnyH_take (i := 2) (v := .bool false) rfl (by kernel_rfl) (by kernel_rfl) (by kernel_rfl) (fun _ _ _ h => h) (Or.inl ⟨by kernel_rfl, fun u hSw => (by go_simp)⟩) hS ?_
                          change wpAnyH _ _ _ _ _ _ _ (Act.put _ (some 85) _) _
                          simp only [Act.put]
                          refine wpAnyH_take (i := 3) (v := .bool false) rfl (by kernel_rfl) (by kernel_rfl) (by kernel_rfl) (fun _ _ _ h => h) (Or.inl ⟨by kernel_rfl, fun u hSw => (by go_simp)⟩) hS ?_
                          change wpAnyH _ _ _ _ _ _ _ (Act.put _ (some 86) _) _
                          simp only [Act.put]
                          refine wpAnyH_take (i := 4) (v := .pointer (some ⟨gv, 0, none⟩)) rfl (by kernel_rfl) (by kernel_rfl) (by kernel_rfl) (fun _ _ _ h => h) (Or.inl ⟨by kernel_rfl, fun u hSw => (by go_simp)⟩) hS ?_
                          change wpAnyH _ _ _ _ _ _ _ (Act.put _ (some 87) _) _
                          simp only [Act.put]
                          refine wpAnyH_take (i := 5) (v := .int .i64 y1) rfl (by kernel_rfl) (by kernel_rfl) (by kernel_rfl) (fun _ _ _ h => h) (Or.inl ⟨by kernel_rfl, fun u hSw => (by have q := hSw.2.2.cell 0; go_simp)⟩) hS ?_
                          change wpAnyH _ _ _ _ _ _ _ (Act.put _ (some 88) _) _
                          simp only [Act.put]
                          refine wpAnyH_take (i := 6) (v := .bool false) rfl (by kernel_rfl) (by kernel_rfl) (by kernel_rfl) (fun _ _ _ h => h) (Or.inl ⟨by kernel_rfl, fun u hSw => (by go_simp)⟩) hS ?_
                          change wpAnyH _ _ _ _ _ _ _ (Act.put _ (some 89) _) _
                          simp only [Act.put]
                          refine wpAnyH_take (i := 7) (v := .bool false) rfl (by kernel_rfl) (by kernel_rfl) (by kernel_rfl) (fun _ _ _ h => h) (Or.inl ⟨by kernel_rfl, fun u hSw => (by go_simp)⟩) hS ?_
                          change wpAnyH _ _ _ _ _ _ _ (Act.put _ (some 90) _) _
                          simp only [Act.put]
                          refine wpAnyH_take (i := 8) (v := .bool false) rfl (by kernel_rfl) (by kernel_rfl) (by kernel_rfl) (fun _ _ _ h => h) (Or.inl ⟨by kernel_rfl, fun u hSw => (by go_simp)⟩) hS ?_
                          change wpAnyH _ _ _ _ _ _ _ (Act.put _ (some 91) _) _
                          simp only [Act.put]
                          refine wpAnyH_take (i := 9) (v := .bool true) rfl (by kernel_rfl) (by kernel_rfl) (by kernel_rfl) (fun _ _ _ h => h) (Or.inl ⟨by kernel_rfl, fun u hSw => (by go_simp)⟩) hS ?_
                          change wpAnyH _ _ _ _ _ _ _ (Act.put _ (some 92) _) _
                          simp only [Act.put]
                          refine wpAnyH_take (i := 10) (v := .bool false) rfl (by kernel_rfl) (by kernel_rfl) (by kernel_rfl) (fun _ _ _ h => h) (Or.inl ⟨by kernel_rfl, fun u hSw => (by go_simp)⟩) hS ?_
                          change wpAnyH _ _ _ _ _ _ _ (Act.put _ (some 93) _) _
                          simp only [Act.put]
                          refine wpAnyH_take (i := 11) (v := .bool false) rfl (by kernel_rfl) (by kernel_rfl) (by kernel_rfl) (fun _ _ _ h => h) (Or.inl ⟨by kernel_rfl, fun u hSw => (by go_simp)⟩) hS ?_
                          change wpAnyH _ _ _ _ _ _ _ (Act.put _ (some 94) _) _
                          simp only [Act.put]
                          refine wpAnyH_take (i := 12) (v := .bool false) rfl (by kernel_rfl) (by kernel_rfl) (by kernel_rfl) (fun _ _ _ h => h) (Or.inl ⟨by kernel_rfl, fun u hSw => (by go_simp)⟩) hS ?_
                          change wpAnyH _ _ _ _ _ _ _ (Act.put _ (some 95) _) _
                          simp only [Act.put]
                          refine wpAnyH_take (i := 13) (v := .pointer (some ⟨gv, 2, none⟩)) rfl (by kernel_rfl) (by kernel_rfl) (by kernel_rfl) (fun _ _ _ h => h) (Or.inl ⟨by kernel_rfl, fun u hSw => (by go_simp)⟩) hS ?_
                          change wpAnyH _ _ _ _ _ _ _ (Act.put _ (some 96) _) _
                          simp only [Act.put]
                          refine wpAnyH_take (i := 14) (v := .agg #[.int .u32 (y3 : Int), .int .u32 (y4 : Int)]) rfl (by kernel_rfl) (by kernel_rfl) (by kernel_rfl) (fun _ _ _ h => h) (Or.inl ⟨by kernel_rfl, fun u hSw => (by have q := hSw.2.2.cell 2; have q1 := hSw.2.2.cell 3; go_simp)⟩) hS ?_
                          change wpAnyH _ _ _ _ _ _ _ (Act.put _ (some 97) _) _
                          simp only [Act.put]
                          refine wpAnyH_ready (rs := [15]) (by kernel_rfl) (by simp) ?_
                          refine AllReadyH.cons rfl (fun K hK => ?_) AllReadyH.nil
                          go_simp
                          refine (HRM.out _).mono ?_
                          rintro e1 w3 ⟨rfl, h9⟩
                          replace KB := KB.below h9 KB.lt
                          replace KV := KV.below h9 KV.lt
                          replace GB := GB.trans (h9.mono GB.size)
                          clear h9
                          refine hK.out _ _ ⟨GB, KB, KV⟩ (fun hS => ?_)
                          clear hK K
                          refine wpAnyH_take (i := 16) (v := .bool false) rfl (by kernel_rfl) (by kernel_rfl) (by kernel_rfl) (fun _ _ _ h => h) (Or.inl ⟨by kernel_rfl, fun u hSw => (by go_simp)⟩) hS ?_
                          change wpAnyH _ _ _ _ _ _ _ (Act.put _ (some 99) _) _
                          simp only [Act.put]
                          refine wpAnyH_take (i := 17) (v := .bool false) rfl (by kernel_rfl) (by kernel_rfl) (by kernel_rfl) (fun _ _ _ h => h) (Or.inl ⟨by kernel_rfl, fun u hSw => (by go_simp)⟩) hS ?_
                          change wpAnyH _ _ _ _ _ _ _ (Act.put _ (some 100) _) _
                          simp only [Act.put]
                          refine wpAnyH_take (i := 18) (v := .bool false) rfl (by kernel_rfl) (by kernel_rfl) (by kernel_rfl) (fun _ _ _ h => h) (Or.inl ⟨by kernel_rfl, fun u hSw => (by go_simp)⟩) hS ?_
                          change wpAnyH _ _ _ _ _ _ _ (Act.put _ (some 101) _) _
                          simp only [Act.put]
                          refine wpAnyH_take (i := 19) (v := .int .i64 (i : Int)) rfl (by kernel_rfl) (by kernel_rfl) (by kernel_rfl) (fun _ _ _ h => h) (Or.inl ⟨by kernel_rfl, fun u hSw => (by go_simp)⟩) hS ?_
                          change wpAnyH _ _ _ _ _ _ _ (Act.put _ (some 102) _) _
                          simp only [Act.put]
                          refine wpAnyH_take (i := 20) (v := .bool true) rfl (by kernel_rfl) (by kernel_rfl) (by kernel_rfl) (fun _ _ _ h => h) (Or.inl ⟨by kernel_rfl, fun u hSw => (by go_simp; exact HIp.out)⟩) hS ?_
                          change wpAnyH _ _ _ _ _ _ _ (Act.put _ (some 103) _) _
                          simp only [Act.put]
                          refine wpAnyH_take (i := 21) (v := .bool true) rfl (by kernel_rfl) (by kernel_rfl) (by kernel_rfl) (fun _ _ _ h => h) (Or.inl ⟨by kernel_rfl, fun u hSw => (by go_simp)⟩) hS ?_
                          change wpAnyH _ _ _ _ _ _ _ (Act.put _ (some 104) _) _
                          simp only [Act.put]
                          refine wpAnyH_take (i := 22) (v := .pointer (some ⟨w.heap.size, 1, none⟩)) rfl (by kernel_rfl) (by kernel_rfl) (by kernel_rfl) (fun _ _ _ h => h) (Or.inl ⟨by kernel_rfl, fun u hSw => (by go_simp)⟩) hS ?_
                          change wpAnyH _ _ _ _ _ _ _ (Act.put _ (some 105) _) _
                          simp only [Act.put]
                          refine wpAnyH_take (i := 23) (v := .slice (some bd) m d) rfl (by kernel_rfl) (by kernel_rfl) (by kernel_rfl) (fun _ _ _ h => h) (Or.inl ⟨by kernel_rfl, fun u hSw => (by have q := hSw.2.1.cell 1; go_simp)⟩) hS ?_
                          change wpAnyH _ _ _ _ _ _ _ (Act.put _ (some 106) _) _
                          simp only [Act.put]
                          refine wpAnyH_take (i := 24) (v := .int .i64 (i : Int)) rfl (by kernel_rfl) (by kernel_rfl) (by kernel_rfl) (fun _ _ _ h => h) (Or.inl ⟨by kernel_rfl, fun u hSw => (by go_simp)⟩) hS ?_
                          change wpAnyH _ _ _ _ _ _ _ (Act.put _ (some 107) _) _
                          simp only [Act.put]
                          refine wpAnyH_take (i := 25) (v := .int .i64 (j : Int)) rfl (by kernel_rfl) (by kernel_rfl) (by kernel_rfl) (fun _ _ _ h => h) (Or.inl ⟨by kernel_rfl, fun u hSw => (by go_simp; exact HJw.out)⟩) hS ?_
                          change wpAnyH _ _ _ _ _ _ _ (Act.put _ (some 108) _) _
                          simp only [Act.put]
                          refine wpAnyH_take (i := 26) (v := .pointer (some (bd.add (j * 4)))) rfl (by kernel_rfl) (by kernel_rfl) (by kernel_rfl) (fun _ _ _ h => h) (Or.inl ⟨by kernel_rfl, fun u hSw => (by go_simp)⟩) hS ?_
                          change wpAnyH _ _ _ _ _ _ _ (Act.put _ (some 109) _) _
                          simp only [Act.put]
                          refine wpAnyH_take (i := 27) (v := .pointer (some (bd.add (j * 4)))) rfl (by kernel_rfl) (by kernel_rfl) (by kernel_rfl) (fun _ _ _ h => h) (Or.inl ⟨by kernel_rfl, fun u hSw => (by go_simp)⟩) hS ?_
                          change wpAnyH _ _ _ _ _ _ _ (Act.put _ (some 110) _) _
                          simp only [Act.put]
                          refine wpAnyH_take (i := 28) (v := .int .i64 p1) rfl (by kernel_rfl) (by kernel_rfl) (by kernel_rfl) (fun _ _ _ h => h) (Or.inl ⟨by kernel_rfl, fun u hSw => (by have q := HP.out u hSw.1; go_simp)⟩) hS ?_
                          change wpAnyH _ _ _ _ _ _ _ (Act.put _ (some 111) _) _
                          simp only [Act.put]
                          refine wpAnyH_take (i := 29) (v := .pointer (some ⟨gv, 0, none⟩)) rfl (by kernel_rfl) (by kernel_rfl) (by kernel_rfl) (fun _ _ _ h => h) (Or.inl ⟨by kernel_rfl, fun u hSw => (by go_simp)⟩) hS ?_
                          change wpAnyH _ _ _ _ _ _ _ (Act.put _ (some 112) _) _
                          simp only [Act.put]
                          refine wpAnyH_take (i := 30) (v := .int .i64 y1) rfl (by kernel_rfl) (by kernel_rfl) (by kernel_rfl) (fun _ _ _ h => h) (Or.inl ⟨by kernel_rfl, fun u hSw => (by have q := hSw.2.2.cell 0; go_simp)⟩) hS ?_
                          change wpAnyH _ _ _ _ _ _ _ (Act.put _ (some 113) _) _
                          simp only [Act.put]
                          refine wpAnyH_take (i := 31) (v := .bool true) rfl (by kernel_rfl) (by kernel_rfl) (by kernel_rfl) (fun _ _ _ h => h) (Or.inl ⟨by kernel_rfl, fun u hSw => (by go_simp)⟩) hS ?_
                          change wpAnyH _ _ _ _ _ _ _ (Act.put _ (some 114) _) _
                          simp only [Act.put]
                          refine wpAnyH_take (i := 32) (v := .bool true) rfl (by kernel_rfl) (by kernel_rfl) (by kernel_rfl) (fun _ _ _ h => h) (Or.inl ⟨by kernel_rfl, fun u hSw => (by go_simp)⟩) hS ?_
                          change wpAnyH _ _ _ _ _ _ _ (Act.put _ (some 115) _) _
                          simp only [Act.put]
                          refine wpAnyH_take (i := 33) (v := .bool true) rfl (by kernel_rfl) (by kernel_rfl) (by kernel_rfl) (fun _ _ _ h => h) (Or.inl ⟨by kernel_rfl, fun u hSw => (by go_simp)⟩) hS ?_
                          change wpAnyH _ _ _ _ _ _ _ (Act.put _ (some 116) _) _
                          simp only [Act.put]
                          refine wpAnyH_done (by kernel_rfl) ?_ _
                          clear hS
                          go_simp
                          have HB := Lib.hid GB
                          clear GB KB KV
                          go_wp2
                          go_ret
                          exact ⟨retB HV.out.symm, HB.out⟩
                · have t2 : decide ((16 : Int) < y1) = true := decide_eq_true (by omega)
                  have HV := Lib.hid (hno (by rw [hok]; simp [y16]))
                  clear hok hno y0 y16
                  have k0 := KB.cell 0
                  have k1 : wr.cell? ⟨w.heap.size, 1, none⟩ = some (.slice (some bd) m d) := KB.cell 1
                  obtain ⟨q0, q1, q2, q3⟩ := HX.out _ GB
                  have KB1 := KB.alloc (.cells #[.int .i64 y1, .int .i64 y2, .int .u32 (y3 : Int), .int .u32 (y4 : Int)] 50)
                  have GB1 := GB.alloc GB.size (.cells #[.int .i64 y1, .int .i64 y2, .int .u32 (y3 : Int), .int .u32 (y4 : Int)] 50)
                  have KV1 := Blk.new wr 50 #[.int .i64 y1, .int .i64 y2, .int .u32 (y3 : Int), .int .u32 (y4 : Int)]
                  have l0 := KB1.cell 0
                  have l1 := KB1.cell 1
                  clear KB GB
                  go_wp2_with fail
                  refine (HDo.out _ GB1).mono ?_
                  rw [HDv.out]
                  rintro e1 w1 ⟨rfl, h9⟩
                  have KB := (KB1.below h9 KB1.lt).alloc (.cells #[.int .i64 a, .int .i64 b, .int .i64 e, .int .i64 f] 27)
                  have KV := (KV1.below h9 KV1.lt).alloc (.cells #[.int .i64 a, .int .i64 b, .int .i64 e, .int .i64 f] 27)
                  have GB := (GB1.trans (h9.mono GB1.size)).alloc (GB1.trans (h9.mono GB1.size)).size (.cells #[.int .i64 a, .int .i64 b, .int .i64 e, .int .i64 f] 27)
                  clear h9 KB1 KV1 GB1 k0 k1 q0 q1 q2 q3 l0 l1
                  go_upto_region 13 with fail
                  generalize wr.heap.size = gv at KV ⊢
                  generalize w1.alloc (.cells #[.int .i64 a, .int .i64 b, .int .i64 e, .int .i64 f] 27) = W9 at KB KV GB ⊢
                  replace GB := GB.drew
                  replace KB : Blk W9.drew _ _ _ := KB
                  replace KV : Blk W9.drew _ _ _ := KV
                  refine wp_region_held_drew (S := fun u => Below w.heap.size w u ∧ Blk u w.heap.size 25 #[.slice A n c, .slice (some bd) m d] ∧ Blk u gv 50 #[.int .i64 y1, .int .i64 y2, .int .u32 (y3 : Int), .int .u32 (y4 : Int)]) (by kernel_rfl) ⟨GB, KB, KV⟩ (fun hS => ?_)
                  generalize W9.drew = V at GB KB KV hS ⊢
                  refine wpAnyH_take (i := 0) (v := .pointer (some ⟨gv, 0, none⟩)) rfl (by kernel_rfl) (by kernel_rfl) (by kernel_rfl) (fun _ _ _ h => h) (Or.inl ⟨by kernel_rfl, fun u hSw => (by go_simp)⟩) hS ?_
                  change wpAnyH _ _ _ _ _ _ _ (Act.put _ (some 83) _) _
                  simp only [Act.put]
                  refine wpAnyH_take (i := 1) (v := .int .i64 y1) rfl (by kernel_rfl) (by kernel_rfl) (by kernel_rfl) (fun _ _ _ h => h) (Or.inl ⟨by kernel_rfl, fun u hSw => (by have q := hSw.2.2.cell 0; go_simp)⟩) hS ?_
                  change wpAnyH _ _ _ _ _ _ _ (Act.put _ (some 84) _) _
                  simp only [Act.put]
                  refine wpAnyH_take (i := 2) (v := .bool false) rfl (by kernel_rfl) (by kernel_rfl) (by kernel_rfl) (fun _ _ _ h => h) (Or.inl ⟨by kernel_rfl, fun u hSw => (by go_simp)⟩) hS ?_
                  change wpAnyH _ _ _ _ _ _ _ (Act.put _ (some 85) _) _
                  simp only [Act.put]
                  refine wpAnyH_take (i := 3) (v := .bool false) rfl (by kernel_rfl) (by kernel_rfl) (by kernel_rfl) (fun _ _ _ h => h) (Or.inl ⟨by kernel_rfl, fun u hSw => (by go_simp)⟩) hS ?_
                  change wpAnyH _ _ _ _ _ _ _ (Act.put _ (some 86) _) _
                  simp only [Act.put]
                  refine wpAnyH_take (i := 4) (v := .pointer (some ⟨gv, 0, none⟩)) rfl (by kernel_rfl) (by kernel_rfl) (by kernel_rfl) (fun _ _ _ h => h) (Or.inl ⟨by kernel_rfl, fun u hSw => (by go_simp)⟩) hS ?_
                  change wpAnyH _ _ _ _ _ _ _ (Act.put _ (some 87) _) _
                  simp only [Act.put]
                  refine wpAnyH_take (i := 5) (v := .int .i64 y1) rfl (by kernel_rfl) (by kernel_rfl) (by kernel_rfl) (fun _ _ _ h => h) (Or.inl ⟨by kernel_rfl, fun u hSw => (by have q := hSw.2.2.cell 0; go_simp)⟩) hS ?_
                  change wpAnyH _ _ _ _ _ _ _ (Act.put _ (some 88) _) _
                  simp only [Act.put]
                  refine wpAnyH_take (i := 6) (v := .bool true) rfl (by kernel_rfl) (by kernel_rfl) (by kernel_rfl) (fun _ _ _ h => h) (Or.inl ⟨by kernel_rfl, fun u hSw => (by go_simp)⟩) hS ?_
                  change wpAnyH _ _ _ _ _ _ _ (Act.put _ (some 89) _) _
                  simp only [Act.put]
                  refine wpAnyH_take (i := 7) (v := .bool true) rfl (by kernel_rfl) (by kernel_rfl) (by kernel_rfl) (fun _ _ _ h => h) (Or.inl ⟨by kernel_rfl, fun u hSw => (by go_simp)⟩) hS ?_
                  change wpAnyH _ _ _ _ _ _ _ (Act.put _ (some 90) _) _
                  simp only [Act.put]
                  refine wpAnyH_take (i := 8) (v := .bool true) rfl (by kernel_rfl) (by kernel_rfl) (by kernel_rfl) (fun _ _ _ h => h) (Or.inl ⟨by kernel_rfl, fun u hSw => (by go_simp)⟩) hS ?_
                  change wpAnyH _ _ _ _ _ _ _ (Act.put _ (some 91) _) _
                  simp only [Act.put]
                  refine wpAnyH_take (i := 9) (v := undef) rfl (by kernel_rfl) (by kernel_rfl) (by kernel_rfl) (fun _ _ _ h => h) (Or.inr ⟨by kernel_rfl, rfl⟩) hS ?_
                  change wpAnyH _ _ _ _ _ _ _ (Act.put _ (some 92) _) _
                  simp only [Act.put]
                  refine wpAnyH_take (i := 10) (v := undef) rfl (by kernel_rfl) (by kernel_rfl) (by kernel_rfl) (fun _ _ _ h => h) (Or.inr ⟨by kernel_rfl, rfl⟩) hS ?_
                  change wpAnyH _ _ _ _ _ _ _ (Act.put _ (some 93) _) _
                  simp only [Act.put]
                  refine wpAnyH_take (i := 11) (v := .bool true) rfl (by kernel_rfl) (by kernel_rfl) (by kernel_rfl) (fun _ _ _ h => h) (Or.inl ⟨by kernel_rfl, fun u hSw => (by go_simp)⟩) hS ?_
                  change wpAnyH _ _ _ _ _ _ _ (Act.put _ (some 94) _) _
                  simp only [Act.put]
                  refine wpAnyH_take (i := 12) (v := .bool true) rfl (by kernel_rfl) (by kernel_rfl) (by kernel_rfl) (fun _ _ _ h => h) (Or.inl ⟨by kernel_rfl, fun u hSw => (by go_simp)⟩) hS ?_
                  change wpAnyH _ _ _ _ _ _ _ (Act.put _ (some 95) _) _
                  simp only [Act.put]
                  refine wpAnyH_take (i := 13) (v := undef) rfl (by kernel_rfl) (by kernel_rfl) (by kernel_rfl) (fun _ _ _ h => h) (Or.inr ⟨by kernel_rfl, rfl⟩) hS ?_
                  change wpAnyH _ _ _ _ _ _ _ (Act.put _ (some 96) _) _
                  simp only [Act.put]
                  refine wpAnyH_take (i := 14) (v := undef) rfl (by kernel_rfl) (by kernel_rfl) (by kernel_rfl) (fun _ _ _ h => h) (Or.inr ⟨by kernel_rfl, rfl⟩) hS ?_
                  change wpAnyH _ _ _ _ _ _ _ (Act.put _ (some 97) _) _
                  simp only [Act.put]
                  refine wpAnyH_take (i := 15) (v := undef) rfl (by kernel_rfl) (by kernel_rfl) (by kernel_rfl) (fun _ _ _ h => h) (Or.inr ⟨by kernel_rfl, rfl⟩) hS ?_
                  change wpAnyH _ _ _ _ _ _ _ (Act.put _ (some 98) _) _
                  simp only [Act.put]
                  refine wpAnyH_take (i := 16) (v := undef) rfl (by kernel_rfl) (by kernel_rfl) (by kernel_rfl) (fun _ _ _ h => h) (Or.inr ⟨by kernel_rfl, rfl⟩) hS ?_
                  change wpAnyH _ _ _ _ _ _ _ (Act.put _ (some 99) _) _
                  simp only [Act.put]
                  refine wpAnyH_take (i := 17) (v := .bool true) rfl (by kernel_rfl) (by kernel_rfl) (by kernel_rfl) (fun _ _ _ h => h) (Or.inl ⟨by kernel_rfl, fun u hSw => (by go_simp)⟩) hS ?_
                  change wpAnyH _ _ _ _ _ _ _ (Act.put _ (some 100) _) _
                  simp only [Act.put]
                  refine wpAnyH_take (i := 18) (v := .bool true) rfl (by kernel_rfl) (by kernel_rfl) (by kernel_rfl) (fun _ _ _ h => h) (Or.inl ⟨by kernel_rfl, fun u hSw => (by go_simp)⟩) hS ?_
                  change wpAnyH _ _ _ _ _ _ _ (Act.put _ (some 101) _) _
                  simp only [Act.put]
                  refine wpAnyH_take (i := 19) (v := undef) rfl (by kernel_rfl) (by kernel_rfl) (by kernel_rfl) (fun _ _ _ h => h) (Or.inr ⟨by kernel_rfl, rfl⟩) hS ?_
                  change wpAnyH _ _ _ _ _ _ _ (Act.put _ (some 102) _) _
                  simp only [Act.put]
                  refine wpAnyH_take (i := 20) (v := undef) rfl (by kernel_rfl) (by kernel_rfl) (by kernel_rfl) (fun _ _ _ h => h) (Or.inr ⟨by kernel_rfl, rfl⟩) hS ?_
                  change wpAnyH _ _ _ _ _ _ _ (Act.put _ (some 103) _) _
                  simp only [Act.put]
                  refine wpAnyH_take (i := 21) (v := undef) rfl (by kernel_rfl) (by kernel_rfl) (by kernel_rfl) (fun _ _ _ h => h) (Or.inr ⟨by kernel_rfl, rfl⟩) hS ?_
                  change wpAnyH _ _ _ _ _ _ _ (Act.put _ (some 104) _) _
                  simp only [Act.put]
                  refine wpAnyH_take (i := 22) (v := undef) rfl (by kernel_rfl) (by kernel_rfl) (by kernel_rfl) (fun _ _ _ h => h) (Or.inr ⟨by kernel_rfl, rfl⟩) hS ?_
                  change wpAnyH _ _ _ _ _ _ _ (Act.put _ (some 105) _) _
                  simp only [Act.put]
                  refine wpAnyH_take (i := 23) (v := undef) rfl (by kernel_rfl) (by kernel_rfl) (by kernel_rfl) (fun _ _ _ h => h) (Or.inr ⟨by kernel_rfl, rfl⟩) hS ?_
                  change wpAnyH _ _ _ _ _ _ _ (Act.put _ (some 106) _) _
                  simp only [Act.put]
                  refine wpAnyH_take (i := 24) (v := undef) rfl (by kernel_rfl) (by kernel_rfl) (by kernel_rfl) (fun _ _ _ h => h) (Or.inr ⟨by kernel_rfl, rfl⟩) hS ?_
                  change wpAnyH _ _ _ _ _ _ _ (Act.put _ (some 107) _) _
                  simp only [Act.put]
                  refine wpAnyH_take (i := 25) (v := undef) rfl (by kernel_rfl) (by kernel_rfl) (by kernel_rfl) (fun _ _ _ h => h) (Or.inr ⟨by kernel_rfl, rfl⟩) hS ?_
                  change wpAnyH _ _ _ _ _ _ _ (Act.put _ (some 108) _) _
                  simp only [Act.put]
                  refine wpAnyH_take (i := 26) (v := undef) rfl (by kernel_rfl) (by kernel_rfl) (by kernel_rfl) (fun _ _ _ h => h) (Or.inr ⟨by kernel_rfl, rfl⟩) hS ?_
                  change wpAnyH _ _ _ _ _ _ _ (Act.put _ (some 109) _) _
                  simp only [Act.put]
                  refine wpAnyH_take (i := 27) (v := undef) rfl (by kernel_rfl) (by kernel_rfl) (by kernel_rfl) (fun _ _ _ h => h) (Or.inr ⟨by kernel_rfl, rfl⟩) hS ?_
                  change wpAnyH _ _ _ _ _ _ _ (Act.put _ (some 110) _) _
                  simp only [Act.put]
                  refine wpAnyH_take (i := 28) (v := undef) rfl (by kernel_rfl) (by kernel_rfl) (by kernel_rfl) (fun _ _ _ h => h) (Or.inr ⟨by kernel_rfl, rfl⟩) hS ?_
                  change wpAnyH _ _ _ _ _ _ _ (Act.put _ (some 111) _) _
                  simp only [Act.put]
                  refine wpAnyH_take (i := 29) (v := undef) rfl (by kernel_rfl) (by kernel_rfl) (by kernel_rfl) (fun _ _ _ h => h) (Or.inr ⟨by kernel_rfl, rfl⟩) hS ?_
                  change wpAnyH _ _ _ _ _ _ _ (Act.put _ (some 112) _) _
                  simp only [Act.put]
                  refine wpAnyH_take (i := 30) (v := undef) rfl (by kernel_rfl) (by kernel_rfl) (by kernel_rfl) (fun _ _ _ h => h) (Or.inr ⟨by kernel_rfl, rfl⟩) hS ?_
                  change wpAnyH _ _ _ _ _ _ _ (Act.put _ (some 113) _) _
                  simp only [Act.put]
                  refine wpAnyH_take (i := 31) (v := undef) rfl (by kernel_rfl) (by kernel_rfl) (by kernel_rfl) (fun _ _ _ h => h) (Or.inr ⟨by kernel_rfl, rfl⟩) hS ?_
                  change wpAnyH _ _ _ _ _ _ _ (Act.put _ (some 114) _) _
                  simp only [Act.put]
                  refine wpAnyH_take (i := 32) (v := undef) rfl (by kernel_rfl) (by kernel_rfl) (by kernel_rfl) (fun _ _ _ h => h) (Or.inr ⟨by kernel_rfl, rfl⟩) hS ?_
                  change wpAnyH _ _ _ _ _ _ _ (Act.put _ (some 115) _) _
                  simp only [Act.put]
                  refine wpAnyH_take (i := 33) (v := .bool true) rfl (by kernel_rfl) (by kernel_rfl) (by kernel_rfl) (fun _ _ _ h => h) (Or.inl ⟨by kernel_rfl, fun u hSw => (by go_simp)⟩) hS ?_
                  change wpAnyH _ _ _ _ _ _ _ (Act.put _ (some 116) _) _
                  simp only [Act.put]
                  refine wpAnyH_done (by kernel_rfl) ?_ _
                  clear hS
                  go_simp
                  have HB := Lib.hid GB
                  clear GB KB KV
                  go_wp2
                  go_ret
                  exact ⟨retB HV.out.symm, HB.out⟩
              · have t1 : decide (y1 < 1) = true := decide_eq_true (by omega)
                have HV := Lib.hid (hno (by rw [hok]; simp [y0]))
                clear hok hno y0
                have k0 := KB.cell 0
                have k1 : wr.cell? ⟨w.heap.size, 1, none⟩ = some (.slice (some bd) m d) := KB.cell 1
                obtain ⟨q0, q1, q2, q3⟩ := HX.out _ GB
                have KB1 := KB.alloc (.cells #[.int .i64 y1, .int .i64 y2, .int .u32 (y3 : Int), .int .u32 (y4 : Int)] 50)
                have GB1 := GB.alloc GB.size (.cells #[.int .i64 y1, .int .i64 y2, .int .u32 (y3 : Int), .int .u32 (y4 : Int)] 50)
                have KV1 := Blk.new wr 50 #[.int .i64 y1, .int .i64 y2, .int .u32 (y3 : Int), .int .u32 (y4 : Int)]
                have l0 := KB1.cell 0
                have l1 := KB1.cell 1
                clear KB GB
                go_wp2_with fail
                refine (HDo.out _ GB1).mono ?_
                rw [HDv.out]
                rintro e1 w1 ⟨rfl, h9⟩
                have KB := (KB1.below h9 KB1.lt).alloc (.cells #[.int .i64 a, .int .i64 b, .int .i64 e, .int .i64 f] 27)
                have KV := (KV1.below h9 KV1.lt).alloc (.cells #[.int .i64 a, .int .i64 b, .int .i64 e, .int .i64 f] 27)
                have GB := (GB1.trans (h9.mono GB1.size)).alloc (GB1.trans (h9.mono GB1.size)).size (.cells #[.int .i64 a, .int .i64 b, .int .i64 e, .int .i64 f] 27)
                clear h9 KB1 KV1 GB1 k0 k1 q0 q1 q2 q3 l0 l1
                go_upto_region 13 with fail
                generalize wr.heap.size = gv at KV ⊢
                generalize w1.alloc (.cells #[.int .i64 a, .int .i64 b, .int .i64 e, .int .i64 f] 27) = W9 at KB KV GB ⊢
                replace GB := GB.drew
                replace KB : Blk W9.drew _ _ _ := KB
                replace KV : Blk W9.drew _ _ _ := KV
                refine wp_region_held_drew (S := fun u => Below w.heap.size w u ∧ Blk u w.heap.size 25 #[.slice A n c, .slice (some bd) m d] ∧ Blk u gv 50 #[.int .i64 y1, .int .i64 y2, .int .u32 (y3 : Int), .int .u32 (y4 : Int)]) (by kernel_rfl) ⟨GB, KB, KV⟩ (fun hS => ?_)
                generalize W9.drew = V at GB KB KV hS ⊢
                refine wpAnyH_take (i := 0) (v := .pointer (some ⟨gv, 0, none⟩)) rfl (by kernel_rfl) (by kernel_rfl) (by kernel_rfl) (fun _ _ _ h => h) (Or.inl ⟨by kernel_rfl, fun u hSw => (by go_simp)⟩) hS ?_
                change wpAnyH _ _ _ _ _ _ _ (Act.put _ (some 83) _) _
                simp only [Act.put]
                refine wpAnyH_take (i := 1) (v := .int .i64 y1) rfl (by kernel_rfl) (by kernel_rfl) (by kernel_rfl) (fun _ _ _ h => h) (Or.inl ⟨by kernel_rfl, fun u hSw => (by have q := hSw.2.2.cell 0; go_simp)⟩) hS ?_
                change wpAnyH _ _ _ _ _ _ _ (Act.put _ (some 84) _) _
                simp only [Act.put]
                refine wpAnyH_take (i := 2) (v := .bool true) rfl (by kernel_rfl) (by kernel_rfl) (by kernel_rfl) (fun _ _ _ h => h) (Or.inl ⟨by kernel_rfl, fun u hSw => (by go_simp)⟩) hS ?_
                change wpAnyH _ _ _ _ _ _ _ (Act.put _ (some 85) _) _
                simp only [Act.put]
                refine wpAnyH_take (i := 3) (v := .bool true) rfl (by kernel_rfl) (by kernel_rfl) (by kernel_rfl) (fun _ _ _ h => h) (Or.inl ⟨by kernel_rfl, fun u hSw => (by go_simp)⟩) hS ?_
                change wpAnyH _ _ _ _ _ _ _ (Act.put _ (some 86) _) _
                simp only [Act.put]
                refine wpAnyH_take (i := 4) (v := undef) rfl (by kernel_rfl) (by kernel_rfl) (by kernel_rfl) (fun _ _ _ h => h) (Or.inr ⟨by kernel_rfl, rfl⟩) hS ?_
                change wpAnyH _ _ _ _ _ _ _ (Act.put _ (some 87) _) _
                simp only [Act.put]
                refine wpAnyH_take (i := 5) (v := undef) rfl (by kernel_rfl) (by kernel_rfl) (by kernel_rfl) (fun _ _ _ h => h) (Or.inr ⟨by kernel_rfl, rfl⟩) hS ?_
                change wpAnyH _ _ _ _ _ _ _ (Act.put _ (some 88) _) _
                simp only [Act.put]
                refine wpAnyH_take (i := 6) (v := undef) rfl (by kernel_rfl) (by kernel_rfl) (by kernel_rfl) (fun _ _ _ h => h) (Or.inr ⟨by kernel_rfl, rfl⟩) hS ?_
                change wpAnyH _ _ _ _ _ _ _ (Act.put _ (some 89) _) _
                simp only [Act.put]
                refine wpAnyH_take (i := 7) (v := .bool true) rfl (by kernel_rfl) (by kernel_rfl) (by kernel_rfl) (fun _ _ _ h => h) (Or.inl ⟨by kernel_rfl, fun u hSw => (by go_simp)⟩) hS ?_
                change wpAnyH _ _ _ _ _ _ _ (Act.put _ (some 90) _) _
                simp only [Act.put]
                refine wpAnyH_take (i := 8) (v := .bool true) rfl (by kernel_rfl) (by kernel_rfl) (by kernel_rfl) (fun _ _ _ h => h) (Or.inl ⟨by kernel_rfl, fun u hSw => (by go_simp)⟩) hS ?_
                change wpAnyH _ _ _ _ _ _ _ (Act.put _ (some 91) _) _
                simp only [Act.put]
                refine wpAnyH_take (i := 9) (v := undef) rfl (by kernel_rfl) (by kernel_rfl) (by kernel_rfl) (fun _ _ _ h => h) (Or.inr ⟨by kernel_rfl, rfl⟩) hS ?_
                change wpAnyH _ _ _ _ _ _ _ (Act.put _ (some 92) _) _
                simp only [Act.put]
                refine wpAnyH_take (i := 10) (v := undef) rfl (by kernel_rfl) (by kernel_rfl) (by kernel_rfl) (fun _ _ _ h => h) (Or.inr ⟨by kernel_rfl, rfl⟩) hS ?_
                change wpAnyH _ _ _ _ _ _ _ (Act.put _ (some 93) _) _
                simp only [Act.put]
                refine wpAnyH_take (i := 11) (v := .bool true) rfl (by kernel_rfl) (by kernel_rfl) (by kernel_rfl) (fun _ _ _ h => h) (Or.inl ⟨by kernel_rfl, fun u hSw => (by go_simp)⟩) hS ?_
                change wpAnyH _ _ _ _ _ _ _ (Act.put _ (some 94) _) _
                simp only [Act.put]
                refine wpAnyH_take (i := 12) (v := .bool true) rfl (by kernel_rfl) (by kernel_rfl) (by kernel_rfl) (fun _ _ _ h => h) (Or.inl ⟨by kernel_rfl, fun u hSw => (by go_simp)⟩) hS ?_
                change wpAnyH _ _ _ _ _ _ _ (Act.put _ (some 95) _) _
                simp only [Act.put]
                refine wpAnyH_take (i := 13) (v := undef) rfl (by kernel_rfl) (by kernel_rfl) (by kernel_rfl) (fun _ _ _ h => h) (Or.inr ⟨by kernel_rfl, rfl⟩) hS ?_
                change wpAnyH _ _ _ _ _ _ _ (Act.put _ (some 96) _) _
                simp only [Act.put]
                refine wpAnyH_take (i := 14) (v := undef) rfl (by kernel_rfl) (by kernel_rfl) (by kernel_rfl) (fun _ _ _ h => h) (Or.inr ⟨by kernel_rfl, rfl⟩) hS ?_
                change wpAnyH _ _ _ _ _ _ _ (Act.put _ (some 97) _) _
                simp only [Act.put]
                refine wpAnyH_take (i := 15) (v := undef) rfl (by kernel_rfl) (by kernel_rfl) (by kernel_rfl) (fun _ _ _ h => h) (Or.inr ⟨by kernel_rfl, rfl⟩) hS ?_
                change wpAnyH _ _ _ _ _ _ _ (Act.put _ (some 98) _) _
                simp only [Act.put]
                refine wpAnyH_take (i := 16) (v := undef) rfl (by kernel_rfl) (by kernel_rfl) (by kernel_rfl) (fun _ _ _ h => h) (Or.inr ⟨by kernel_rfl, rfl⟩) hS ?_
                change wpAnyH _ _ _ _ _ _ _ (Act.put _ (some 99) _) _
                simp only [Act.put]
                refine wpAnyH_take (i := 17) (v := .bool true) rfl (by kernel_rfl) (by kernel_rfl) (by kernel_rfl) (fun _ _ _ h => h) (Or.inl ⟨by kernel_rfl, fun u hSw => (by go_simp)⟩) hS ?_
                change wpAnyH _ _ _ _ _ _ _ (Act.put _ (some 100) _) _
                simp only [Act.put]
                refine wpAnyH_take (i := 18) (v := .bool true) rfl (by kernel_rfl) (by kernel_rfl) (by kernel_rfl) (fun _ _ _ h => h) (Or.inl ⟨by kernel_rfl, fun u hSw => (by go_simp)⟩) hS ?_
                change wpAnyH _ _ _ _ _ _ _ (Act.put _ (some 101) _) _
                simp only [Act.put]
                refine wpAnyH_take (i := 19) (v := undef) rfl (by kernel_rfl) (by kernel_rfl) (by kernel_rfl) (fun _ _ _ h => h) (Or.inr ⟨by kernel_rfl, rfl⟩) hS ?_
                change wpAnyH _ _ _ _ _ _ _ (Act.put _ (some 102) _) _
                simp only [Act.put]
                refine wpAnyH_take (i := 20) (v := undef) rfl (by kernel_rfl) (by kernel_rfl) (by kernel_rfl) (fun _ _ _ h => h) (Or.inr ⟨by kernel_rfl, rfl⟩) hS ?_
                change wpAnyH _ _ _ _ _ _ _ (Act.put _ (some 103) _) _
                simp only [Act.put]
                refine wpAnyH_take (i := 21) (v := undef) rfl (by kernel_rfl) (by kernel_rfl) (by kernel_rfl) (fun _ _ _ h => h) (Or.inr ⟨by kernel_rfl, rfl⟩) hS ?_
                change wpAnyH _ _ _ _ _ _ _ (Act.put _ (some 104) _) _
                simp only [Act.put]
                refine wpAnyH_take (i := 22) (v := undef) rfl (by kernel_rfl) (by kernel_rfl) (by kernel_rfl) (fun _ _ _ h => h) (Or.inr ⟨by kernel_rfl, rfl⟩) hS ?_
                change wpAnyH _ _ _ _ _ _ _ (Act.put _ (some 105) _) _
                simp only [Act.put]
                refine wpAnyH_take (i := 23) (v := undef) rfl (by kernel_rfl) (by kernel_rfl) (by kernel_rfl) (fun _ _ _ h => h) (Or.inr ⟨by kernel_rfl, rfl⟩) hS ?_
                change wpAnyH _ _ _ _ _ _ _ (Act.put _ (some 106) _) _
                simp only [Act.put]
                refine wpAnyH_take (i := 24) (v := undef) rfl (by kernel_rfl) (by kernel_rfl) (by kernel_rfl) (fun _ _ _ h => h) (Or.inr ⟨by kernel_rfl, rfl⟩) hS ?_
                change wpAnyH _ _ _ _ _ _ _ (Act.put _ (some 107) _) _
                simp only [Act.put]
                refine wpAnyH_take (i := 25) (v := undef) rfl (by kernel_rfl) (by kernel_rfl) (by kernel_rfl) (fun _ _ _ h => h) (Or.inr ⟨by kernel_rfl, rfl⟩) hS ?_
                change wpAnyH _ _ _ _ _ _ _ (Act.put _ (some 108) _) _
                simp only [Act.put]
                refine wpAnyH_take (i := 26) (v := undef) rfl (by kernel_rfl) (by kernel_rfl) (by kernel_rfl) (fun _ _ _ h => h) (Or.inr ⟨by kernel_rfl, rfl⟩) hS ?_
                change wpAnyH _ _ _ _ _ _ _ (Act.put _ (some 109) _) _
                simp only [Act.put]
                refine wpAnyH_take (i := 27) (v := undef) rfl (by kernel_rfl) (by kernel_rfl) (by kernel_rfl) (fun _ _ _ h => h) (Or.inr ⟨by kernel_rfl, rfl⟩) hS ?_
                change wpAnyH _ _ _ _ _ _ _ (Act.put _ (some 110) _) _
                simp only [Act.put]
                refine wpAnyH_take (i := 28) (v := undef) rfl (by kernel_rfl) (by kernel_rfl) (by kernel_rfl) (fun _ _ _ h => h) (Or.inr ⟨by kernel_rfl, rfl⟩) hS ?_
                change wpAnyH _ _ _ _ _ _ _ (Act.put _ (some 111) _) _
                simp only [Act.put]
                refine wpAnyH_take (i := 29) (v := undef) rfl (by kernel_rfl) (by kernel_rfl) (by kernel_rfl) (fun _ _ _ h => h) (Or.inr ⟨by kernel_rfl, rfl⟩) hS ?_
                change wpAnyH _ _ _ _ _ _ _ (Act.put _ (some 112) _) _
                simp only [Act.put]
                refine wpAnyH_take (i := 30) (v := undef) rfl (by kernel_rfl) (by kernel_rfl) (by kernel_rfl) (fun _ _ _ h => h) (Or.inr ⟨by kernel_rfl, rfl⟩) hS ?_
                change wpAnyH _ _ _ _ _ _ _ (Act.put _ (some 113) _) _
                simp only [Act.put]
                refine wpAnyH_take (i := 31) (v := undef) rfl (by kernel_rfl) (by kernel_rfl) (by kernel_rfl) (fun _ _ _ h => h) (Or.inr ⟨by kernel_rfl, rfl⟩) hS ?_
                change wpAnyH _ _ _ _ _ _ _ (Act.put _ (some 114) _) _
                simp only [Act.put]
                refine wpAnyH_take (i := 32) (v := undef) rfl (by kernel_rfl) (by kernel_rfl) (by kernel_rfl) (fun _ _ _ h => h) (Or.inr ⟨by kernel_rfl, rfl⟩) hS ?_
                change wpAnyH _ _ _ _ _ _ _ (Act.put _ (some 115) _) _
                simp only [Act.put]
                refine wpAnyH_take (i := 33) (v := .bool true) rfl (by kernel_rfl) (by kernel_rfl) (by kernel_rfl) (fun _ _ _ h => h) (Or.inl ⟨by kernel_rfl, fun u hSw => (by go_simp)⟩) hS ?_
                change wpAnyH _ _ _ _ _ _ _ (Act.put _ (some 116) _) _
                simp only [Act.put]
                refine wpAnyH_done (by kernel_rfl) ?_ _
                clear hS
                go_simp
                have HB := Lib.hid GB
                clear GB KB KV
                go_wp2
                go_ret
                exact ⟨retB HV.out.symm, HB.out⟩
            · obtain rfl : m = i := by omega
              have HV : Hid (rightG ds us = true) := Lib.hid (by unfold rightG; rw [HA1.out, show allK (vcOk ds us) us.length = true by rw [HL.out.2]; exact HA.out]; simp [HNM.out.1, HNM.out.2])
              have kk := KB.cell 1
              go_wp2
              go_ret
              exact ⟨retB HV.out.symm, GB⟩
    · have e2 : decide ((16 : Int) < (m : Int)) = true := decide_eq_true (by omega)
      have HV : Hid (rightG ds us = false) := Lib.hid (by unfold rightG; rw [hl.2]; simp [hm])
      clear hl hn hm
      go_enter Try.func18, Try.ntmps18
      go_wp2
      go_ret
      exact ⟨retB HV.out.symm, HK.out.2⟩
  · have e1 : decide ((8 : Int) < (n : Int)) = true := decide_eq_true (by omega)
    have HV : Hid (rightG ds us = false) := Lib.hid (by unfold rightG; rw [hl.1]; simp [hn])
    clear hl hn
    go_enter Try.func18, Try.ntmps18
    go_wp2
    go_ret
    exact ⟨retB HV.out.symm, HK.out.2⟩

end Go.Proofs.Ytknimnopopnbhaa
