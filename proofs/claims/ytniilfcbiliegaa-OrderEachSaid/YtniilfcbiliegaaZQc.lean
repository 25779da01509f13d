/-
  Gangs handed in in another order: plain mathematics; the library's Equal of equal numbers, Reverse of gangs. No statement is proved here.
-/
import Derived.Test.YtniilfcbiliegaaZQa
namespace Go.Proofs.Ytniilfcbiliegaa
open Go.RowKit Go.Maps

theorem alone_perm {gs gs' : List (List Int)} (hp : gs'.Perm gs) (i : Int) : aloneB gs' i = aloneB gs i := by
  rw [Bool.eq_iff_iff, aloneB_iff, aloneB_iff]
  exact ⟨fun h g hg => h g (hp.mem_iff.2 hg), fun h g hg => h g (hp.mem_iff.1 hg)⟩
theorem gr_perm {gs gs' : List (List Int)} (hp : gs'.Perm gs) (h : GR gs) : GR gs' :=
  ⟨fun g hg => h.some_ g (hp.mem_iff.1 hg), fun g hg => h.rise g (hp.mem_iff.1 hg), fun g hg => h.each g (hp.mem_iff.1 hg), (hp.pairwise_iff (fun {_ _} r x hx y hy e => r y hy x hx e.symm)).2 h.apart⟩
theorem pair_rise : ∀ {last : Int} {l : List Int}, (∀ x ∈ l, last < x ∧ x ≤ 16) → l.Pairwise (· < ·) → riseI last l = true
  | _, [], _, _ => rfl
  | last, a :: l, h, hp => by
    obtain ⟨p1, p2⟩ := List.pairwise_cons.1 hp
    have ih := pair_rise (last := a) (l := l) (fun x hx => ⟨p1 x hx, (h x (by simp [hx])).2⟩) p2
    show (decide (last < a) && decide (a ≤ 16) && riseI a l) = true
    rw [ih, decide_eq_true (h a (by simp)).1, decide_eq_true (h a (by simp)).2]
    rfl
theorem gr_gangs {gs : List (List Int)} (h : GR gs) : gangsB gs = true := by
  refine gangs_yes fun k hk => ?_
  have hg : gs[k]? = some gs[k] := List.getElem?_eq_getElem hk
  rw [gOk_at hg, decide_eq_true (h.some_ _ (List.getElem_mem _)), pair_rise (fun x hx => h.each _ (List.getElem_mem _) x hx) (h.rise _ (List.getElem_mem _))]
  rw [Bool.and_self, Bool.true_and, List.all_eq_true]
  intro i hi
  rw [aloneB_iff]
  intro g hg2 hx
  obtain ⟨j, hj⟩ := List.mem_iff_getElem?.1 hg2
  rw [List.getElem?_take] at hj
  split at hj
  · rename_i hjk
    obtain ⟨h1, e1⟩ := List.getElem?_eq_some_iff.1 hj
    exact (List.pairwise_iff_getElem.1 h.apart) j k h1 hk hjk i (by rw [e1]; exact hx) i hi rfl
  · cases hj
theorem gangs_perm {gs gs' : List (List Int)} (hp : gs'.Perm gs) : gangsB gs' = gangsB gs := by
  rw [Bool.eq_iff_iff]
  exact ⟨fun h => gr_gangs (gr_perm hp.symm (gangs_gr h)), fun h => gr_gangs (gr_perm hp (gangs_gr h))⟩
theorem chk_perm (qs : List Rn) (ws : List Wt) {gs gs' : List (List Int)} (hp : gs'.Perm gs) : chkO qs ws gs' = chkO qs ws gs := by
  unfold chkO
  rw [gangs_perm hp]
theorem ents_perm (L : List Pt) {gs gs' : List (List Int)} (hp : gs'.Perm gs) : (entsP L gs').Perm (entsP L gs) := by
  unfold entsP
  have e : singE gs' L = singE gs L := by
    unfold singE
    congr 1
    funext p
    rw [alone_perm hp]
  rw [e]
  exact (hp.flatMap_right _).append_right _
theorem turned_same {L : List Pt} (hL : LG L) {gs gs' : List (List Int)} (hG : GR gs) (hp : gs'.Perm gs) : sortE (entsP L gs') = sortE (entsP L gs) :=
  sort_eq (ents_diff hL hG) (ents_perm L hp) fun _ hy => (ents_facts hL hy).1
theorem like_self (x : Et) : likeE x x = true := by
  refine stand_zero.1 ?_
  have := stand_cmp.neg x x
  omega
theorem gsI_perm {G G' : List Gg} (hp : G'.Perm G) : (gsI G').Perm (gsI G) := by
  unfold gsI
  exact hp.map _

set_option maxRecDepth 100000 in
set_option maxHeartbeats 4000000 in
theorem iequal_any (A : Option Addr) (n c : Nat) (is : List Int) (A' : Option Addr) (c' : Nat) (w : World) (hG : IR w A n is) (hG' : IR w A' n is) :
    Calls Try.prog 28 #[.slice A n c, .slice A' n c'] w (Said (.bool true) w) := by
  have HL := Lib.hid hG.len
  have HN := hG.small
  have HR := Lib.hid hG
  have HR' := Lib.hid hG'
  clear hG hG'
  go_enter Try.func28, Try.ntmps28
  go_wp2_with fail
  go_loopw [13] (fun iv wr => ∃ k : Nat, k ≤ n ∧ iv = .int .i64 (k : Int) ∧ Below w.heap.size w wr) (fun iv _ => n - (intOf iv).toNat)
  case atStart => exact ⟨0, by omega, rfl, Below.refl _ _⟩
  case round =>
    obtain ⟨k, hk, rfl, hB⟩ := hrel
    by_cases hlt : k < n
    · obtain ⟨x, hm⟩ := elem_at (l := is) (k := k) (by rw [HL.out]; exact hlt)
      obtain ⟨ad, rfl, hb1, c0⟩ := (HR.out.below hB).at_ hm
      obtain ⟨ad', rfl, hb2, d0⟩ := (HR'.out.below hB).at_ hm
      have i1 : (0 : Int) ≤ (k : Int) := by omega
      have i2 : (k : Int) < (n : Int) := by omega
      have v1 : (x != x) = false := by simp
      clear hm hb1 hb2
      go_wp2_with fail
      go_quiet (fail)
      go_wp2
      go_roundw
      case rel => exact ⟨k + 1, by omega, by go_num, below_drewN hB _⟩
      case measure => simp [intOf]; omega
    · obtain rfl : k = n := by omega
      go_wp2
      go_ret
      exact ⟨rfl, hB⟩

end Go.Proofs.Ytniilfcbiliegaa
