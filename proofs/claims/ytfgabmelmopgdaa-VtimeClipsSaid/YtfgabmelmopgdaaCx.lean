/-
  VtimeClips: its mathematics, the landed Clip, the map of the clipped ones. No statement is proved here.
-/
import Derived.Test.YtfgabmelmopgdaaVx
import Derived.Maps.OwnSet
import Derived.Carry
import Derived.Maps.Views
namespace Go.Proofs.Ytfgabmelmopgdaa
open Go.RowKit

/-- what a clip makes of a runner, where it is not too great -/
def clipN (L x : Nat) (r : Rn) : Rn := if rN r * x < L * rW r then mkR r.1 r.2.1 (overW L (rW r) x) (rW r) else r
theorem clipN_yes {L x : Nat} {r : Rn} (h : rN r * x < L * rW r) : clipN L x r = mkR r.1 r.2.1 (overW L (rW r) x) (rW r) := by unfold clipN; exact if_pos h
theorem clipN_no {L x : Nat} {r : Rn} (h : ¬ rN r * x < L * rW r) : clipN L x r = r := by unfold clipN; exact if_neg h
theorem clipN_id (L x : Nat) (r : Rn) : (clipN L x r).1 = r.1 := by
  by_cases h : rN r * x < L * rW r
  · rw [clipN_yes h, mkR_id]
  · rw [clipN_no h]
theorem clipF_some {L x : Nat} {r s : Rn} (h : clipF L x r = some s) : s = clipN L x r ∧ (rN r * x < L * rW r → overW L (rW r) x < 2 ^ 100) := by
  unfold clipF at h
  by_cases hb : rN r * x < L * rW r
  · rw [if_pos hb] at h
    by_cases hc : overW L (rW r) x < 2 ^ 100
    · rw [if_pos hc] at h
      rw [clipN_yes hb]
      exact ⟨(Option.some.inj h).symm, fun _ => hc⟩
    · rw [if_neg hc] at h
      exact absurd h (by simp)
  · rw [if_neg hb] at h
    rw [clipN_no hb]
    exact ⟨(Option.some.inj h).symm, fun h2 => absurd h2 hb⟩
theorem mapF_nil (f : Rn → Option Rn) : mapF f [] = some [] := rfl
theorem mapF_cons {f : Rn → Option Rn} {r s : Rn} {l m : List Rn} (h1 : f r = some s) (h2 : mapF f l = some m) : mapF f (r :: l) = some (s :: m) := by
  unfold mapF
  rw [h1, h2]
theorem mapF_inv {f : Rn → Option Rn} {r : Rn} {l k : List Rn} (h : mapF f (r :: l) = some k) : ∃ s m, f r = some s ∧ mapF f l = some m ∧ k = s :: m := by
  unfold mapF at h
  cases h1 : f r with
  | none => rw [h1] at h; cases h
  | some s =>
    cases h2 : mapF f l with
    | none => rw [h1, h2] at h; cases h
    | some m =>
      rw [h1, h2] at h
      exact ⟨s, m, rfl, rfl, (Option.some.inj h).symm⟩
/-- element by element, for whatever it is that is said of each -/
theorem mapF_all {f : Rn → Option Rn} {g : Rn → Rn} {C : Rn → Prop} (hf : ∀ r s, f r = some s → s = g r ∧ C r) (l : List Rn) : ∀ m, mapF f l = some m → m = l.map g ∧ ∀ r ∈ l, C r := by
  induction l with
  | nil =>
    intro m h
    rw [mapF_nil] at h
    exact ⟨(Option.some.inj h).symm, fun r hr => by cases hr⟩
  | cons r l ih =>
    intro k h
    obtain ⟨s, m, h1, h2, rfl⟩ := mapF_inv h
    obtain ⟨q1, q2⟩ := hf r s h1
    obtain ⟨q3, q4⟩ := ih m h2
    refine ⟨by rw [q1, q3, List.map_cons], fun z hz => ?_⟩
    rcases List.mem_cons.1 hz with rfl | hz
    · exact q2
    · exact q4 z hz
theorem mapF_id {f : Rn → Option Rn} (l : List Rn) (h : ∀ r ∈ l, f r = some r) : mapF f l = some l := by
  induction l with
  | nil => exact mapF_nil f
  | cons r l ih => exact mapF_cons (h r (by simp)) (ih (fun z hz => h z (by simp [hz])))
theorem mapF_map {L x : Nat} {l m : List Rn} (h : mapF (clipF L x) l = some m) : m = l.map (clipN L x) ∧ ∀ r ∈ l, rN r * x < L * rW r → overW L (rW r) x < 2 ^ 100 :=
  mapF_all (f := clipF L x) (g := clipN L x) (C := fun r => rN r * x < L * rW r → overW L (rW r) x < 2 ^ 100) (fun _ _ h => clipF_some h) l m h
/-- below what the top less a slack is: more than a slack below the top -/
theorem low_iff (N x T z k : Nat) : N * x + k * z * x < T * z ↔ N * x < (T - k * x) * z := by
  rw [Nat.sub_mul, Nat.mul_right_comm k z x]
  omega
theorem lift_ge {L x z : Nat} (hx : 0 < x) : ¬ overW L z x * x < L * z := by
  have := over_ge (n := L) (m := z) hx
  omega
theorem lift_top {T x z k : Nat} (hx : 0 < x) (hz : 0 < z) (hk : 0 < k) (h : 0 < (T - k * x) * z) : overW (T - k * x) z x * x ≤ T * z := by
  have h0 := over_ge (n := T - k * x) (m := z) hx
  have h1 : 0 < overW (T - k * x) z x := by
    rcases Nat.eq_zero_or_pos (overW (T - k * x) z x) with e | e
    · rw [e, Nat.zero_mul] at h0
      omega
    · exact e
  have h2 := over_lt (n := T - k * x) (m := z) hx h1
  rw [Nat.sub_mul, Nat.one_mul] at h2
  rw [Nat.sub_mul] at h2 h
  have h3 : x ≤ k * x * z := by
    have a1 : 1 * x ≤ k * x := Nat.mul_le_mul_right x hk
    have a2 : k * x * 1 ≤ k * x * z := Nat.mul_le_mul_left _ hz
    omega
  generalize overW (T - k * x) z x * x = a at h2 ⊢
  generalize T * z = b at h2 h ⊢
  generalize k * x * z = c at h2 h h3
  omega
/-- one value over two weights: the same are below -/
theorem below_same {N z T x T' x' k : Nat} (hx : 0 < x) (e : T' * x = T * x') (h : ¬ N * x + k * z * x < T * z) : ¬ N * x' + k * z * x' < T' * z := by
  intro h2
  apply h
  have h3 : (N * x' + k * z * x') * x < T' * z * x := Nat.mul_lt_mul_of_pos_right h2 hx
  have e1 : T' * z * x = T * z * x' := by rw [Nat.mul_right_comm T' z x, e, Nat.mul_right_comm]
  have e2 : (N * x' + k * z * x') * x = (N * x + k * z * x) * x' := by
    rw [Nat.add_mul, Nat.add_mul, Nat.mul_right_comm N x' x, Nat.mul_right_comm (k * z) x' x]
  rw [e1, e2] at h3
  exact Nat.lt_of_mul_lt_mul_right h3
theorem rise_clip {L x : Nat} {l : List Rn} (h : Rise l) : Rise (l.map (clipN L x)) := by
  unfold Rise at h ⊢
  rw [List.pairwise_map]
  refine List.Pairwise.imp (fun {a b} hab => ?_) h
  rw [clipN_id, clipN_id]
  exact hab
theorem clip_right {L x : Nat} {l : List Rn} (hR : RQ l) (hU : UQ l) (hlt : ∀ r ∈ l, rN r * x < L * rW r → overW L (rW r) x < 2 ^ 100) : RQ (l.map (clipN L x)) ∧ UQ (l.map (clipN L x)) := by
  have key : ∀ y ∈ l.map (clipN L x), rightR y = true ∧ UR y := fun y hy => by
    obtain ⟨r, hr, rfl⟩ := List.mem_map.1 hy
    by_cases h : rN r * x < L * rW r
    · rw [clipN_yes h]
      have q := rightR_iff.1 (hR.each r hr)
      exact mk_right q.1 q.2.1 q.2.2.1 (hlt r hr h)
    · rw [clipN_no h]
      exact ⟨hR.each r hr, hU r hr⟩
  exact ⟨⟨rise_clip hR.rise, fun y hy => (key y hy).1⟩, fun y hy => (key y hy).2⟩
/-- where all are within a slack of the top a clip leaves all -/
theorem mapF_same {L x : Nat} {l : List Rn} (h : ∀ r ∈ l, ¬ rN r * x < L * rW r) : mapF (clipF L x) l = some l ∧ belowI L x l = [] := by
  refine ⟨mapF_id l (fun r hr => ?_), ?_⟩
  · unfold clipF
    exact if_neg (h r hr)
  · unfold belowI
    rw [List.filter_eq_nil_iff.2 (fun r hr => by simpa using h r hr)]
    exact List.map_nil
end Go.Proofs.Ytfgabmelmopgdaa
namespace Go.Proofs.Ytfgabmelmopgdaa
open Go.RowKit

theorem rN_top {l : List Rn} {t : Rn} (h : topT l = t.2.2) : rN t = fN (topT l) ∧ rW t = fW (topT l) := by
  rw [h]
  unfold rN rW fN fW
  exact ⟨Eq.refl _, Eq.refl _⟩
/-- a clip of a queue: what comes (k: the slack) -/
theorem clip_facts {l : List Rn} {T x k L : Nat} (hk : 0 < k) (hR : RQ l) (hU : UQ l) (h0 : 0 < l.length) (hT : fN (topT l) = T) (hx : fW (topT l) = x) (hL : T - k * x = L) (hlt : ∀ r ∈ l, rN r * x < L * rW r → overW L (rW r) x < 2 ^ 100) :
    0 < x ∧ fN (topT (l.map (clipN L x))) * x = T * fW (topT (l.map (clipN L x))) ∧ (∀ r ∈ l.map (clipN L x), ¬ rN r * x + k * rW r * x < T * rW r) ∧
      (∀ r ∈ l.map (clipN L x), ¬ rN r * fW (topT (l.map (clipN L x))) + k * rW r * fW (topT (l.map (clipN L x))) < fN (topT (l.map (clipN L x))) * rW r) := by
  obtain ⟨⟨t, ht, het⟩, hmax⟩ := topT_spec hU hR.each h0
  obtain ⟨hR2, hU2⟩ := clip_right hR hU hlt
  have h02 : 0 < (l.map (clipN L x)).length := by rw [List.length_map]; exact h0
  obtain ⟨⟨s, hs, hes⟩, hmax2⟩ := topT_spec hU2 hR2.each h02
  have et := rN_top het
  have es := rN_top hes
  rw [hT, hx] at et
  rw [hT, hx] at hmax
  obtain ⟨T', hT'⟩ : ∃ T', fN (topT (l.map (clipN L x))) = T' := ⟨_, rfl⟩
  obtain ⟨x', hx'⟩ : ∃ x', fW (topT (l.map (clipN L x))) = x' := ⟨_, rfl⟩
  rw [hT', hx'] at es hmax2 ⊢
  have hw : ∀ r ∈ l, 0 < rW r := fun r hr => (rightR_iff.1 (hR.each r hr)).2.2.1.1
  have hx0 : 0 < x := by rw [← et.2]; exact hw t ht
  have htb : ¬ rN t * x < L * rW t := by
    rw [et.1, et.2, ← hL, Nat.sub_mul]
    omega
  have htm : t ∈ l.map (clipN L x) := List.mem_map.2 ⟨t, ht, clipN_no htb⟩
  have h1 := hmax2 t htm
  rw [et.1, et.2] at h1
  have h2 : T' * x ≤ T * x' := by
    obtain ⟨r, hr, hrs⟩ := List.mem_map.1 hs
    rw [← es.1, ← es.2, ← hrs]
    by_cases hb : rN r * x < L * rW r
    · rw [clipN_yes hb, rN_mk, rW_mk, ← hL]
      exact lift_top hx0 (hw r hr) hk (by rw [hL]; omega)
    · rw [clipN_no hb]
      exact hmax r hr
  have he : T' * x = T * x' := Nat.le_antisymm h2 h1
  have hnear : ∀ r ∈ l.map (clipN L x), ¬ rN r * x + k * rW r * x < T * rW r := fun y hy h => by
    rw [low_iff, hL] at h
    obtain ⟨r, hr, hrs⟩ := List.mem_map.1 hy
    rw [← hrs] at h
    by_cases hb : rN r * x < L * rW r
    · rw [clipN_yes hb, rN_mk, rW_mk] at h
      exact lift_ge hx0 h
    · rw [clipN_no hb] at h
      exact hb h
  exact ⟨hx0, he, hnear, fun r hr => below_same hx0 he (hnear r hr)⟩
/-- each of them: as it was, or lifted -/
theorem clip_each {l : List Rn} {L x : Nat} (hR : RQ l) (hx : 0 < x) : ∀ r ∈ l.map (clipN L x), ∃ r0, kf l r.1 = some r0 ∧ (r.1 ∈ belowI L x l ↔ rN r0 * x < L * rW r0) ∧ r = clipN L x r0 ∧ (rN r0 * x < L * rW r0 → rN r0 * rW r < rN r * rW r0) ∧ (¬ rN r0 * x < L * rW r0 → r = r0) := by
  intro y hy
  obtain ⟨r, hr, rfl⟩ := List.mem_map.1 hy
  have hk := kf_mem hR.rise hr
  refine ⟨r, by rw [clipN_id]; exact hk, ?_, Eq.refl _, fun hb => ?_, fun hb => clipN_no hb⟩
  · rw [clipN_id]
    unfold belowI
    rw [List.mem_map]
    constructor
    · rintro ⟨z, hz, hzr⟩
      have hz2 := List.mem_filter.1 hz
      have q := kf_mem hR.rise hz2.1
      rw [hzr, hk] at q
      have q2 := Option.some.inj q
      rw [q2]
      exact of_decide_eq_true hz2.2
    · intro hb
      exact ⟨r, List.mem_filter.2 ⟨hr, decide_eq_true hb⟩, rfl⟩
  · have hz : 0 < rW r := (rightR_iff.1 (hR.each r hr)).2.2.1.1
    rw [clipN_yes hb, rN_mk, rW_mk]
    have h1 := lift_ge (L := L) (z := rW r) hx
    have h2 : rN r * x < overW L (rW r) x * x := by omega
    exact Nat.mul_lt_mul_of_pos_right (Nat.lt_of_mul_lt_mul_right h2) hz
end Go.Proofs.Ytfgabmelmopgdaa
namespace Go.Proofs.Ytfgabmelmopgdaa
open Go.RowKit

theorem topK_one (a b : Nat → Nat) : topK a b 1 = 0 := by
  show (if a (topK a b 0) * b 0 < a 0 * b (topK a b 0) then 0 else topK a b 0) = 0
  by_cases h : a (topK a b 0) * b 0 < a 0 * b (topK a b 0)
  · rw [if_pos h]
  · rw [if_neg h]; exact Eq.refl _
theorem topK_two (a b : Nat → Nat) : topK a b 2 = if a 0 * b 1 < a 1 * b 0 then 1 else 0 := by
  show (if a (topK a b 1) * b 1 < a 1 * b (topK a b 1) then 1 else topK a b 1) = _
  rw [topK_one]
theorem gT_two {f0 f1 : Nat × Nat × Nat} (hb : allB [f0, f1] = true) : gT [f0, f1] = (if fN f0 * fW f1 < fN f1 * fW f0 then f1 else f0, true) := by
  have a0 : aF [f0, f1] 0 = fN f0 := by unfold aF fN; rw [List.getD_cons_zero]
  have a1 : aF [f0, f1] 1 = fN f1 := by unfold aF fN; rw [List.getD_cons_succ, List.getD_cons_zero]
  have b0 : bF [f0, f1] 0 = fW f0 := by unfold bF fW; rw [List.getD_cons_zero]
  have b1 : bF [f0, f1] 1 = fW f1 := by unfold bF fW; rw [List.getD_cons_succ, List.getD_cons_zero]
  have ht : topI [f0, f1] = if fN f0 * fW f1 < fN f1 * fW f0 then 1 else 0 := by
    unfold topI
    rw [show [f0, f1].length = 2 from rfl, topK_two, a0, a1, b0, b1]
  unfold gT
  rw [if_pos ⟨by simp, hb⟩, ht]
  by_cases h : fN f0 * fW f1 < fN f1 * fW f0
  · rw [if_pos h, if_pos h, List.getD_cons_succ, List.getD_cons_zero]
  · rw [if_neg h, if_neg h, List.getD_cons_zero]
/-- a Time and a bound: over the Time's own weight it is lifted where it is below -/
theorem lift_two {f0 f1 : Nat × Nat × Nat} (hb : allB [f0, f1] = true) (h0 : rightN (fN f0) (fW f0) = true) (h1 : rightN (fN f1) (fW f1) = true) :
    liftR (fW f0) [f0, f1] = if fN f0 * fW f1 < fN f1 * fW f0 then (if overW (fN f1) (fW f0) (fW f1) < 2 ^ 100 then (overW (fN f1) (fW f0) (fW f1), fW f0, 0) else (0, 0, 131)) else (fN f0, fW f0, 0) := by
  have q0 := rightN_true h0
  have hw := weightB_yes q0.1 q0.2.1
  unfold liftR
  rw [gT_two hb, if_pos rfl]
  by_cases h : fN f0 * fW f1 < fN f1 * fW f0
  · rw [if_pos h, if_pos h]
    by_cases hc : overW (fN f1) (fW f0) (fW f1) < 2 ^ 100
    · rw [if_pos hc, overR_ok h1 hw hc]
    · rw [if_neg hc, overR_no h1 hw hc]
  · rw [if_neg h, if_neg h]
    have e : overW (fN f0) (fW f0) (fW f0) = fN f0 := by
      have hz : 0 < fW f0 := q0.1
      unfold overW
      rw [Nat.mul_mod_left, if_pos rfl, Nat.mul_div_cancel _ hz, Nat.add_zero]
    rw [overR_ok h0 hw (by rw [e]; exact q0.2.2), e]
/-- a lifted Time is another one -/
theorem lift_ne {N z L x : Nat} (hx : 0 < x) (h : N * x < L * z) : overW L z x ≠ N := fun e => by
  have h1 := lift_ge (L := L) (z := z) hx
  rw [e] at h1
  exact h1 h
end Go.Proofs.Ytfgabmelmopgdaa
namespace Go.Proofs.Ytfgabmelmopgdaa
open Go.RowKit

def DoOkClip2 (q1 q2 : Value) (gm : Option Nat) (qs : List Rn) (r : List Rn × Int) (X : World → Prop) (w : World) : Prop :=
  ∀ (b : Nat) (A : Option Addr) (n c : Nat) (u : World), w.heap.size + 2 ≤ b → b ≤ u.heap.size → Below w.heap.size w u → u.ownsRow b 40 5 (.slice A n c) n (flat rv qs) → Calls Try.prog 54 #[.slice A n c, q1, q2] u (DoesR gm b r X u)

set_option maxRecDepth 100000 in
set_option maxHeartbeats 4000000 in
theorem changedClip2_any (A : Option Addr) (n c : Nat) (qs : List Rn) (q1 q2 : Value) (gm : Option Nat) (r : List Rn × Int) (X : World → Prop) (w : World) (hG : QR w A n c qs) (hgm : ∀ g, gm = some g → g < w.heap.size) (h0 : r.2 ≠ 0 → r.1 = [])
    (hX : ∀ (u : World) (g i : Nat) (v : Value), w.heap.size ≤ g → g < w.heap.size + 2 → X u → X (u.setCell ⟨g, i, none⟩ v)) (hdo : DoOkClip2 q1 q2 gm qs r X w) :
    Calls Try.prog 51 #[.agg #[.slice A n c], .func (.func 54) #[] #[q1, q2]] w (DoesQ gm w.heap.size r X w) := by
  have HCl := Lib.hid (fun (u : World) (h : Below w.heap.size w u) => rclone_any A n c qs u (hG.below h).row hG.small)
  have HD := Lib.hid hdo
  obtain ⟨K0, K, GB⟩ := blks2 w 26 26 #[.slice A n c] #[.slice none 0 0]
  have hz : w.heap.size + 1 + 1 ≤ ((w.alloc (.cells #[.slice A n c] 26)).alloc (.cells #[.slice none 0 0] 26)).heap.size := by simp
  obtain ⟨L, E⟩ := r
  by_cases he : E = 0
  · subst he
    clear h0 hG hdo
    go_enter Try.func51, Try.ntmps51
    have zK00 := K0.cell 0
    go_wp2_with fail
    refine (HCl.out _ GB).mono ?_
    rintro e w1 ⟨A1, c1, rfl, oo, h9⟩
    replace K0 := K0.below h9 K0.lt
    replace K := K.below h9 K.lt
    replace GB := GB.trans (h9.mono GB.size)
    replace oo := own_down oo hz
    replace hz := Nat.le_trans hz h9.size
    clear h9
    clear zK00
    go_wp2_with fail
    refine (HD.out _ _ _ _ _ (by omega) hz GB oo).mono ?_
    rintro e w2 hd
    obtain ⟨A3, n3, c3, rfl, ho⟩ := hd.out
    have KK := hd.but.blk K (by omega) (fun e => by have := hgm _ e.symm; omega)
    have BB := (below_but GB gm).trans (hd.but.mono (by omega))
    have HX := hd.more
    clear hd oo hz GB K K0
    have d0 := KK.cell 0
    have f0 := KK.frozen 0
    have HP := Lib.hid (putB1 (x := .slice A3 n3 c3) KK BB (by omega))
    clear KK BB
    have HO := Lib.hid (And.intro (ho rfl).1 (own_down (own_set (ho rfl).2 (g := w.heap.size + 1) (by omega) 0 (.slice A3 n3 c3)) (show w.heap.size ≤ w.heap.size + 1 + 1 by omega)))
    clear ho
    go_wp2_with fail
    exact bodyPost_ret (v := .tuple #[.agg #[.slice A3 n3 c3], .int .i64 0]) (results_cell_row_tmp Try.results51 _ _ _ _ _ _ rfl HP.out.1 Try.underlying26 rfl (by kernel_rfl)) rfl ⟨⟨_, _, _, rfl, HO.out.1, HO.out.2⟩, HP.out.2, hX _ _ _ _ (by omega) (by omega) HX⟩
  · have e0 : (E != 0) = true := by simpa using he
    obtain rfl : L = [] := h0 he
    clear h0 hG hdo he
    go_enter Try.func51, Try.ntmps51
    have zK00 := K0.cell 0
    go_wp2_with fail
    refine (HCl.out _ GB).mono ?_
    rintro e w1 ⟨A1, c1, rfl, oo, h9⟩
    replace K0 := K0.below h9 K0.lt
    replace K := K.below h9 K.lt
    replace GB := GB.trans (h9.mono GB.size)
    replace oo := own_down oo hz
    replace hz := Nat.le_trans hz h9.size
    clear h9
    clear zK00
    go_wp2_with fail
    refine (HD.out _ _ _ _ _ (by omega) hz GB oo).mono ?_
    rintro e w2 hd
    obtain ⟨A3, n3, c3, rfl, ho⟩ := hd.out
    have KK := hd.but.blk K (by omega) (fun e => by have := hgm _ e.symm; omega)
    have BB := (below_but GB gm).trans (hd.but.mono (by omega))
    have HX := hd.more
    clear hd oo hz GB K K0
    have d0 := KK.cell 0
    have f0 := KK.frozen 0
    have HP := Lib.hid (putB1 (x := .slice none 0 0) KK BB (by omega))
    clear KK BB
    have HO : Hid (([] : List Rn).length = 0 ∧ (w2.setCell ⟨w.heap.size + 1, 0, none⟩ (.slice none 0 0)).ownsRow w.heap.size 40 5 (.slice none 0 0) 0 (flat rv [])) := Lib.hid ⟨rfl, World.ownsRow_nil _ _ _ _⟩
    clear ho
    go_wp2_with fail
    exact bodyPost_ret (v := .tuple #[.agg #[.slice none 0 0], .int .i64 E]) (results_cell_row_tmp Try.results51 _ _ _ _ _ _ rfl HP.out.1 Try.underlying26 rfl (by kernel_rfl)) rfl ⟨⟨_, _, _, rfl, HO.out.1, HO.out.2⟩, HP.out.2, hX _ _ _ _ (by omega) (by omega) HX⟩

end Go.Proofs.Ytfgabmelmopgdaa
namespace Go.Proofs.Ytfgabmelmopgdaa
open Go.RowKit

theorem mapF_none {f : Rn → Option Rn} {r : Rn} (h : f r = none) (l : List Rn) (hr : r ∈ l) : mapF f l = none := by
  cases hm : mapF f l with
  | none => rfl
  | some m =>
    have q := (mapF_all (f := f) (g := fun z => (f z).getD z) (C := fun z => f z ≠ none) (fun z s hz => ⟨by rw [hz]; rfl, by rw [hz]; exact fun e => by cases e⟩) l m hm).2 r hr
    exact absurd h q
theorem clipF_ok {L x : Nat} {r : Rn} (h : rN r * x < L * rW r → overW L (rW r) x < 2 ^ 100) : clipF L x r = some (clipN L x r) := by
  unfold clipF
  by_cases hb : rN r * x < L * rW r
  · rw [if_pos hb, if_pos (h hb), clipN_yes hb]
  · rw [if_neg hb, clipN_no hb]
theorem clipF_no {L x : Nat} {r : Rn} (hb : rN r * x < L * rW r) (hc : ¬ overW L (rW r) x < 2 ^ 100) : clipF L x r = none := by
  unfold clipF
  rw [if_pos hb, if_neg hc]
theorem mapF_some {f : Rn → Option Rn} {g : Rn → Rn} (l : List Rn) (h : ∀ r ∈ l, f r = some (g r)) : mapF f l = some (l.map g) := by
  induction l with
  | nil => exact mapF_nil f
  | cons r l ih => exact mapF_cons (h r (by simp)) (ih (fun z hz => h z (by simp [hz])))
/-- the row when the first k are clipped -/
def mid (g : Rn → Rn) (qs : List Rn) (k : Nat) : List Rn := (qs.take k).map g ++ qs.drop k
theorem mid_zero (g : Rn → Rn) (qs : List Rn) : mid g qs 0 = qs := by unfold mid; rw [List.take_zero, List.drop_zero, List.map_nil, List.nil_append]
theorem mid_all {g : Rn → Rn} {qs : List Rn} {k : Nat} (h : qs.length ≤ k) : mid g qs k = qs.map g := by unfold mid; rw [List.take_of_length_le h, List.drop_eq_nil_of_le h, List.append_nil]
theorem mid_len (g : Rn → Rn) (qs : List Rn) (k : Nat) : (mid g qs k).length = qs.length := by
  unfold mid
  rw [List.length_append, List.length_map, ← List.length_append, List.take_append_drop]
theorem len_takek {qs : List Rn} {k : Nat} (h : k < qs.length) (g : Rn → Rn) : ((qs.take k).map g).length = k := by rw [List.length_map, List.length_take]; omega
theorem mid_at {g : Rn → Rn} {qs : List Rn} {k : Nat} {r : Rn} (h : qs[k]? = some r) : (mid g qs k)[k]? = some r := by
  have hk := (List.getElem?_eq_some_iff.1 h).1
  unfold mid
  rw [List.getElem?_append_right (by rw [len_takek hk]; exact Nat.le_refl _), len_takek hk, Nat.sub_self, List.getElem?_drop]
  exact h
theorem mid_step {g : Rn → Rn} {qs : List Rn} {k : Nat} {r : Rn} (h : qs[k]? = some r) : (mid g qs k).set k (g r) = mid g qs (k + 1) := by
  have hk := (List.getElem?_eq_some_iff.1 h).1
  have hd : qs.drop k = r :: qs.drop (k + 1) := by
    rw [List.drop_eq_getElem_cons hk]
    congr 1
    exact (List.getElem?_eq_some_iff.1 h).2
  unfold mid
  rw [List.set_append_right _ _ (by rw [len_takek hk]; exact Nat.le_refl _), len_takek hk, Nat.sub_self, hd, List.set_cons_zero, List.take_add_one, h, List.map_append, List.append_assoc]
  exact Eq.refl _
theorem below_step {L x : Nat} {qs : List Rn} {k : Nat} {r : Rn} (h : qs[k]? = some r) : belowI L x (qs.take (k + 1)) = belowI L x (qs.take k) ++ (if rN r * x < L * rW r then [r.1] else []) := by
  unfold belowI
  rw [List.take_add_one, h, List.filter_append, List.map_append]
  congr 1
  by_cases hm : rN r * x < L * rW r
  · rw [if_pos hm]; simp [hm]
  · rw [if_neg hm]; simp [hm]
end Go.Proofs.Ytfgabmelmopgdaa
namespace Go.Proofs.Ytfgabmelmopgdaa
open Go.RowKit

def clipR (L x : Nat) (qs : List Rn) : List Rn × Int := match mapF (clipF L x) qs with | some m => (m, 0) | none => ([], 131)
/-- the box of ids in the end -/
def XC (bi B L x : Nat) (qs : List Rn) (u : World) : Prop :=
  ∃ sv m, u.cell? ⟨bi, 0, none⟩ = some sv ∧ ((clipR L x qs).2 = 0 → m = (belowI L x qs).length ∧ u.ownsRow (B + 2) 3 1 sv m (vs (belowI L x qs)))
theorem below_len (L x : Nat) (qs : List Rn) (k : Nat) : (belowI L x (qs.take k)).length ≤ k := by
  unfold belowI
  rw [List.length_map]
  refine Nat.le_trans (List.length_filter_le _ _) ?_
  rw [List.length_take]
  omega
theorem two_row (w : World) (t : TypeId) (h l z p q y : Nat) : Frow (w.alloc (.cells #[.int .u64 (h : Int), .int .u64 (l : Int), .int .u64 (z : Int), .int .u64 (p : Int), .int .u64 (q : Int), .int .u64 (y : Int)] t)) (w.heap.size + 1) (some ⟨w.heap.size, 0, none⟩) [(h, l, z), (p, q, y)] := by
  have K := Blk.new w t #[.int .u64 (h : Int), .int .u64 (l : Int), .int .u64 (z : Int), .int .u64 (p : Int), .int .u64 (q : Int), .int .u64 (y : Int)]
  intro k a b x hx
  refine ⟨_, rfl, Nat.lt_succ_self _, ?_⟩
  match k, hx with
  | 0, hx =>
    simp only [List.getElem?_cons_zero, Option.some.injEq, Prod.mk.injEq] at hx
    obtain ⟨rfl, rfl, rfl⟩ := hx
    exact ⟨K.cell 0, K.cell 1, K.cell 2⟩
  | 1, hx =>
    simp only [List.getElem?_cons_succ, List.getElem?_cons_zero, Option.some.injEq, Prod.mk.injEq] at hx
    obtain ⟨rfl, rfl, rfl⟩ := hx
    exact ⟨K.cell 3, K.cell 4, K.cell 5⟩
  | k + 2, hx => simp at hx

theorem lift_vals {a e : Int} {h l z th tl x : Nat} (hal : allB [(h, l, z), (th, tl, x)] = true) (h0 : rightN (fN (h, l, z)) (fW (h, l, z)) = true) (h1 : rightN (th * 2 ^ 64 + tl) x = true) :
    liftR z [(h, l, z), (th, tl, x)] = if rN (a, e, h, l, z) * x < (th * 2 ^ 64 + tl) * rW (a, e, h, l, z) then (if overW (th * 2 ^ 64 + tl) (rW (a, e, h, l, z)) x < 2 ^ 100 then (overW (th * 2 ^ 64 + tl) (rW (a, e, h, l, z)) x, rW (a, e, h, l, z), 0) else (0, 0, 131)) else (rN (a, e, h, l, z), rW (a, e, h, l, z), 0) :=
  lift_two hal h0 h1

set_option maxRecDepth 100000 in
set_option maxHeartbeats 16000000 in
theorem clipdo_any (bt bi : Nat) (qs : List Rn) (th tl x : Nat) (w : World) (hR : RQ qs) (hU : UQ qs) (hne : bt ≠ bi) (Kt : Blk w bt 36 #[.int .u64 (th : Int), .int .u64 (tl : Int), .int .u64 (x : Int)]) (Ki : Blk w bi 54 #[.slice none 0 0]) (hth : th < 2 ^ 64) (htl : tl < 2 ^ 64) (hlow : rightN (th * 2 ^ 64 + tl) x = true) (h9 : qs.length ≤ 1000) :
    DoOkClip2 (.pointer (some ⟨bt, 0, none⟩)) (.pointer (some ⟨bi, 0, none⟩)) (some bi) qs (clipR (th * 2 ^ 64 + tl) x qs) (XC bi w.heap.size (th * 2 ^ 64 + tl) x qs) w := by
  intro b A n c u hb1 hb2 hB oo
  have hl : qs.length = n := by
    have h1 := oo.1
    rw [length_flat rv length_rv] at h1
    omega
  have n9 : n ≤ 1000 := by omega
  have hti : bt < w.heap.size ∧ bi < w.heap.size := ⟨Kt.lt, Ki.lt⟩
  replace Kt := Kt.below hB Kt.lt
  replace Ki := Ki.below hB Ki.lt
  have hoo : u.ownsRow b 40 5 (.slice A n c) n (flat rv (mid (clipN (th * 2 ^ 64 + tl) x) qs 0)) := by rw [mid_zero]; exact oo
  have HG0 : Hid (0 < n → ∃ g, A = some ⟨g, 0, none⟩ ∧ g < u.heap.size) := Lib.hid (fun h0 => by
    obtain ⟨g, cap, hv, _, hlt⟩ := oo.form h0
    have hA : A = some ⟨g, 0, none⟩ := by injection hv
    exact ⟨g, hA, hlt⟩)
  have H0 := Lib.hid (And.intro hb1 (And.intro hb2 (And.intro hti hne)))
  have HQ := Lib.hid (And.intro hR (And.intro hU (And.intro hl (And.intro hth (And.intro htl hlow)))))
  clear hR hU hne hth htl hlow h9 oo hl hti hb1 hb2 hB
  go_enter Try.func54, Try.ntmps54
  go_wp2_with fail
  go_loopw [12] (fun iv wr => ∃ (k m2 : Nat) (sv : Value), k ≤ n ∧ m2 ≤ k ∧ iv = .int .i64 (k : Int) ∧ Blk wr bt 36 #[.int .u64 (th : Int), .int .u64 (tl : Int), .int .u64 (x : Int)] ∧ Blk wr bi 54 #[sv] ∧ Hid (m2 = (belowI (th * 2 ^ 64 + tl) x (qs.take k)).length ∧ ∀ r ∈ qs.take k, rN r * x < (th * 2 ^ 64 + tl) * rW r → overW (th * 2 ^ 64 + tl) (rW r) x < 2 ^ 100) ∧ wr.ownsRow u.heap.size 3 1 sv m2 (vs (belowI (th * 2 ^ 64 + tl) x (qs.take k))) ∧ wr.ownsRow b 40 5 (.slice A n c) n (flat rv (mid (clipN (th * 2 ^ 64 + tl) x) qs k)) ∧ But (some bi) b u wr) (fun iv _ => n - (intOf iv).toNat)
  case atStart => exact ⟨0, 0, _, Nat.zero_le _, Nat.le_refl _, rfl, Kt, Ki, Lib.hid ⟨rfl, fun r hr => by simp at hr⟩, World.ownsRow_nil _ _ _ _, hoo, below_but (Below.refl _ _) _⟩
  case round =>
    clear Kt Ki hoo
    obtain ⟨k, m2, sv, hk, hm2, rfl, Kt, Ki, HM, ho1, ho2, hBu⟩ := hrel
    by_cases hlt : k < n
    · obtain ⟨⟨a, e, h, l, z⟩, hx⟩ := elem_at (l := qs) (k := k) (by rw [HQ.out.2.2.1]; exact hlt)
      have hrr := HQ.out.1.each _ (List.mem_of_getElem? hx)
      have huu := HQ.out.2.1 _ (List.mem_of_getElem? hx)
      have hm := mid_at (g := (clipN (th * 2 ^ 64 + tl) x)) hx
      obtain ⟨g, cap, hv, hgb, hgl⟩ := ho2.form (by omega)
      have hA : A = some ⟨g, 0, none⟩ := by injection hv
      subst hA
      have HGu : Hid (g < u.heap.size ∧ b ≤ g) := Lib.hid (by
        obtain ⟨g2, e2, hl2⟩ := HG0.out (by omega)
        injection e2 with e2
        injection e2 with e2
        exact ⟨by omega, hgb⟩)
      have cc : ∀ j, j < 5 → wr.cell? ⟨g, k * 5 + j, none⟩ = (rv (a, e, h, l, z))[j]? := fun j hj => (ho2.cellAt (k * 5 + j) (by omega)).trans (flat_at rv length_rv hm j hj)
      have d0 : wr.cell? ⟨g, k * 5, none⟩ = some (.int .i64 a) := cc 0 (by omega)
      have d1 : wr.cell? ⟨g, k * 5 + 1, none⟩ = some (.int .i64 e) := cc 1 (by omega)
      have d2 : wr.cell? ⟨g, k * 5 + 2, none⟩ = some (.int .u64 (h : Int)) := cc 2 (by omega)
      have d3 : wr.cell? ⟨g, k * 5 + 3, none⟩ = some (.int .u64 (l : Int)) := cc 3 (by omega)
      have d4 : wr.cell? ⟨g, k * 5 + 4, none⟩ = some (.int .u64 (z : Int)) := cc 4 (by omega)
      have hzn : rightN (fN (h, l, z)) (fW (h, l, z)) = true := by
        have q := right_n hrr
        unfold rN rW at q
        unfold fN fW
        exact q
      have hal : allB [(h, l, z), (th, tl, x)] = true := by
        unfold allB
        rw [List.all_eq_true]
        intro f hf
        rcases List.mem_cons.1 hf with rfl | hf
        · exact (rightN_of huu.2.1).symm.trans hzn
        · obtain rfl := List.mem_singleton.1 hf
          exact (rightN_of HQ.out.2.2.2.2.1).symm.trans HQ.out.2.2.2.2.2
      have hlift := lift_vals (a := a) (e := e) hal hzn HQ.out.2.2.2.2.2
      have hsm : Small [(h, l, z), (th, tl, x)] := by
        intro j p q y hj
        match j, hj with
        | 0, hj =>
          simp only [List.getElem?_cons_zero, Option.some.injEq, Prod.mk.injEq] at hj
          obtain ⟨rfl, rfl, rfl⟩ := hj
          exact huu
        | 1, hj =>
          simp only [List.getElem?_cons_succ, List.getElem?_cons_zero, Option.some.injEq, Prod.mk.injEq] at hj
          obtain ⟨rfl, rfl, rfl⟩ := hj
          exact ⟨HQ.out.2.2.2.1, HQ.out.2.2.2.2.1, by have := rightN_true HQ.out.2.2.2.2.2; omega⟩
        | j + 2, hj => simp at hj
      have HLi := Lib.hid (fun (A' : Option Addr) (c' : Nat) (v : World) (hr : Frow v v.heap.size A' [(h, l, z), (th, tl, x)]) => vlifted_any z A' 2 c' [(h, l, z), (th, tl, x)] v huu.2.2 rfl (by omega) hsm hr)
      have HV := Lib.hid (And.intro hlift (And.intro hrr (And.intro huu hzn)))
      have HX := Lib.hid hx
      have i1 : (0 : Int) ≤ (k : Int) := by omega
      have i2 : (k : Int) < (n : Int) := by omega
      clear hlift hrr huu hzn hal hsm hx hm hv cc
      obtain ⟨rp, rx, re, hres⟩ : ∃ rp rx re, liftR z [(h, l, z), (th, tl, x)] = (rp, rx, re) := ⟨_, _, _, rfl⟩
      rw [hres] at HLi
      simp only [fe_cells] at HLi
      obtain ⟨ph, hph⟩ : ∃ j, rp / 2 ^ 64 = j := ⟨_, rfl⟩
      obtain ⟨pl, hpl⟩ : ∃ j, rp % 2 ^ 64 = j := ⟨_, rfl⟩
      rw [hph, hpl] at HLi
      have HRes := Lib.hid (And.intro hres (And.intro hph hpl))
      have hsz : u.heap.size ≤ wr.heap.size := hBu.size
      have HGz : Hid (u.heap.size ≤ wr.heap.size) := Lib.hid hsz
      have hsv : Hid (∀ j, sv.ownBlock = some j → u.heap.size ≤ j ∧ j < wr.heap.size) := Lib.hid (fun j hj => ho1.lt j hj)
      have K7 := Blk.new wr 40 #[.int .i64 a, .int .i64 e, .int .u64 (h : Int), .int .u64 (l : Int), .int .u64 (z : Int)]
      have HAll := Lib.hid (And.intro (Kt.alloc (.cells #[.int .i64 a, .int .i64 e, .int .u64 (h : Int), .int .u64 (l : Int), .int .u64 (z : Int)] 40)) (And.intro (Ki.alloc (.cells #[.int .i64 a, .int .i64 e, .int .u64 (h : Int), .int .u64 (l : Int), .int .u64 (z : Int)] 40)) (And.intro (ho1.alloc (.cells #[.int .i64 a, .int .i64 e, .int .u64 (h : Int), .int .u64 (l : Int), .int .u64 (z : Int)] 40)) (And.intro (ho2.alloc (.cells #[.int .i64 a, .int .i64 e, .int .u64 (h : Int), .int .u64 (l : Int), .int .u64 (z : Int)] 40)) (hBu.alloc (Nat.le_trans H0.out.2.1 hsz) (.cells #[.int .i64 a, .int .i64 e, .int .u64 (h : Int), .int .u64 (l : Int), .int .u64 (z : Int)] 40))))))
      clear hres hph hpl Kt Ki ho1 ho2 hBu
      go_upto_region 4 with fail
      obtain ⟨Y, hY⟩ : ∃ Y, wr.alloc (.cells #[.int .i64 a, .int .i64 e, .int .u64 (h : Int), .int .u64 (l : Int), .int .u64 (z : Int)] 40) = Y := ⟨_, rfl⟩
      obtain ⟨g7, hg7⟩ : ∃ j, wr.heap.size = j := ⟨_, rfl⟩
      obtain ⟨Kt, Ki, ho1, ho2, hBu⟩ := HAll.out
      have hgY : g < Y.heap.size := by rw [← hY]; simp; omega
      rw [hY] at K7 Kt Ki ho1 ho2 hBu ⊢
      rw [hg7] at K7 hsv HGz ⊢
      clear HAll hY hg7 d0 d1 d2 d3 d4 hgl hsz
      have b0 := K7.cell 2
      have b1 := K7.cell 3
      have b2 := K7.cell 4
      have t0 := Kt.cell 0
      have t1 := Kt.cell 1
      have t2 := Kt.cell 2
      have HF := Lib.hid (two_row Y 36 h l z th tl x)
      have hsY := hBu.size
      have HB6 := Lib.hid (And.intro (Kt.alloc (.cells #[.int .u64 (h : Int), .int .u64 (l : Int), .int .u64 (z : Int), .int .u64 (th : Int), .int .u64 (tl : Int), .int .u64 (x : Int)] 36)) (And.intro (Ki.alloc (.cells #[.int .u64 (h : Int), .int .u64 (l : Int), .int .u64 (z : Int), .int .u64 (th : Int), .int .u64 (tl : Int), .int .u64 (x : Int)] 36)) (And.intro (K7.alloc (.cells #[.int .u64 (h : Int), .int .u64 (l : Int), .int .u64 (z : Int), .int .u64 (th : Int), .int .u64 (tl : Int), .int .u64 (x : Int)] 36)) (And.intro (ho1.alloc (.cells #[.int .u64 (h : Int), .int .u64 (l : Int), .int .u64 (z : Int), .int .u64 (th : Int), .int .u64 (tl : Int), .int .u64 (x : Int)] 36)) (And.intro (ho2.alloc (.cells #[.int .u64 (h : Int), .int .u64 (l : Int), .int .u64 (z : Int), .int .u64 (th : Int), .int .u64 (tl : Int), .int .u64 (x : Int)] 36)) (hBu.alloc (Nat.le_trans H0.out.2.1 hsY) (.cells #[.int .u64 (h : Int), .int .u64 (l : Int), .int .u64 (z : Int), .int .u64 (th : Int), .int .u64 (tl : Int), .int .u64 (x : Int)] 36)))))))
      clear Kt Ki K7 ho1 ho2 hBu
      go_wp2_with fail
      refine (HLi.out _ _ _ (by simpa using HF.out)).mono ?_
      rintro e9 w1 ⟨rfl, h9⟩
      obtain ⟨Kt, Ki, K7, ho1, ho2, hBu⟩ := HB6.out
      have hs6 := hBu.size
      replace Kt := Kt.below h9 Kt.lt
      replace Ki := Ki.below h9 Ki.lt
      replace K7 := K7.below h9 K7.lt
      replace ho1 := own_below ho1 h9
      replace ho2 := own_below ho2 h9
      replace hBu := hBu.trans (below_but (h9.mono (Nat.le_trans H0.out.2.1 hs6)) (some bi))
      have hgw : g < w1.heap.size := Nat.lt_of_lt_of_le hgY (Nat.le_trans (by simp) h9.size)
      have hsw := hBu.size
      have h78 : g7 < w1.heap.size := K7.lt
      have K8 := Blk.new w1 36 #[.int .u64 (ph : Int), .int .u64 (pl : Int), .int .u64 (rx : Int)]
      replace Kt := Kt.alloc (.cells #[.int .u64 (ph : Int), .int .u64 (pl : Int), .int .u64 (rx : Int)] 36)
      replace Ki := Ki.alloc (.cells #[.int .u64 (ph : Int), .int .u64 (pl : Int), .int .u64 (rx : Int)] 36)
      replace K7 := K7.alloc (.cells #[.int .u64 (ph : Int), .int .u64 (pl : Int), .int .u64 (rx : Int)] 36)
      replace ho1 := ho1.alloc (.cells #[.int .u64 (ph : Int), .int .u64 (pl : Int), .int .u64 (rx : Int)] 36)
      replace ho2 := ho2.alloc (.cells #[.int .u64 (ph : Int), .int .u64 (pl : Int), .int .u64 (rx : Int)] 36)
      replace hBu := hBu.alloc (Nat.le_trans H0.out.2.1 hsw) (.cells #[.int .u64 (ph : Int), .int .u64 (pl : Int), .int .u64 (rx : Int)] 36)
      clear h9 HB6 HLi HF b0 b1 b2 t0 t1 t2 hs6 hsY hgY hsw
      go_upto_region 5 with fail
      obtain ⟨Y2, hY⟩ : ∃ Y, w1.alloc (.cells #[.int .u64 (ph : Int), .int .u64 (pl : Int), .int .u64 (rx : Int)] 36) = Y := ⟨_, rfl⟩
      obtain ⟨g8, hg8⟩ : ∃ j, w1.heap.size = j := ⟨_, rfl⟩
      have hgY : g < Y2.heap.size := by rw [← hY]; simp; omega
      rw [hY] at Kt Ki K7 K8 ho1 ho2 hBu ⊢
      rw [hg8] at K8 h78 ⊢
      clear hY hg8 hgw
      have hlv := HRes.out.1.symm.trans HV.out.1
      by_cases hbl : rN (a, e, h, l, z) * x < (th * 2 ^ 64 + tl) * rW (a, e, h, l, z)
      · rw [if_pos hbl] at hlv
        by_cases hov : overW (th * 2 ^ 64 + tl) (rW (a, e, h, l, z)) x < 2 ^ 100
        · rw [if_pos hov] at hlv
          obtain ⟨i0, hi0, hz0, hz1, hz2⟩ := info_parts9 int_info
          have q1 := Prod.mk.inj hlv
          have q2 := Prod.mk.inj q1.2
          have q5 : z = rx := q2.1.symm
          have q6 : re = 0 := q2.2
          have hx0 : 0 < x := (rightN_true HQ.out.2.2.2.2.2).1
          have hnn : rp ≠ h * 2 ^ 64 + l := by rw [q1.1]; exact lift_ne hx0 hbl
          have hne : (ph = h ∧ ¬ pl = l) ∨ ¬ ph = h := by
            have p1 := HRes.out.2.1
            have p2 := HRes.out.2.2
            omega
          have hst := mid_step (g := (clipN (th * 2 ^ 64 + tl) x)) HX.out
          rw [clipN_yes hbl, ← q1.1] at hst
          unfold mkR at hst
          rw [HRes.out.2.1, HRes.out.2.2] at hst
          have hi3 : belowI (th * 2 ^ 64 + tl) x (qs.take (k + 1)) = belowI (th * 2 ^ 64 + tl) x (qs.take k) ++ [a] := by rw [below_step HX.out, if_pos hbl]
          have hm3 : m2 + 1 = (belowI (th * 2 ^ 64 + tl) x (qs.take (k + 1))).length ∧ ∀ r ∈ qs.take (k + 1), rN r * x < (th * 2 ^ 64 + tl) * rW r → overW (th * 2 ^ 64 + tl) (rW r) x < 2 ^ 100 := by
            refine ⟨by rw [hi3, List.length_append, ← HM.out.1]; rfl, fun r hr => ?_⟩
            rw [List.take_add_one, HX.out] at hr
            rcases List.mem_append.1 hr with hr | hr
            · exact HM.out.2 r hr
            · obtain rfl : r = (a, e, h, l, z) := by simpa using hr
              exact fun _ => hov
          subst q6 q5
          have HZ := Lib.hid (And.intro ho1 (And.intro ho2 (And.intro hBu.size (And.intro Ki (And.intro Kt (And.intro K8 hBu))))))
          have HZ8 : Hid (bi < g8) := Lib.hid (by have := H0.out; have := hsv; have := h78; have h5 := HGz.out; omega)
          have k0 := K8.cell 0
          have k1 := K8.cell 1
          have k2 := K8.cell 2
          have r0 := K7.cell 0
          have r2 := K7.cell 2
          have r3 := K7.cell 3
          have r4 := K7.cell 4
          have i9 := Ki.cell 0
          have Hk : Hid (k + 1 ≤ n ∧ m2 + 1 ≤ k + 1) := Lib.hid ⟨hlt, by omega⟩
          clear hlv hbl hov q1 q2 hx0 hnn ho1 ho2 hBu Ki Kt K7 K8
          have HST : Hid ((mid (clipN (th * 2 ^ 64 + tl) x) qs k).set k (a, e, ph, pl, z) = mid (clipN (th * 2 ^ 64 + tl) x) qs (k + 1)) := Lib.hid hst
          have Hm3 := Lib.hid hm3
          have Hi3 := Lib.hid hi3
          have h78 := Lib.hid h78
          clear hst hm3 hi3
          rcases hne with ⟨e1, e2⟩ | e1
          · have c1 : ((ph : Int) == (h : Int)) = true := by rw [e1]; simp
            have c2 : ((pl : Int) == (l : Int)) = false := by simp; omega
            clear e1 e2
            go_wp2_with (
              at_builtin
              go_must (refine wpList_append_own _ rfl (.tmp 37) (.tmp 40) 54 rfl u.heap.size 3 i0 (.int .i64 0) 1 8 Try.underlying54 hi0 hz0 hz1 hz2 rfl (by decide) _ m2 _ rfl (HZ.out.1.alloc _) ⟨_, 0, none⟩ 1 1 [.int .i64 a] rfl rfl (cell_one_new _ _ _) (by simp [Value.oneCell']) (by simp only [maxLen]; omega) (by omega) (by have := HZ.out.2.2.1; simp; omega) ?_
                       intro v2 w2 hown2 hg2 _
                       obtain ⟨A2, c2', rfl, _, _⟩ := own_reads hown2
                       have hti := H0.out.2.2.1
                       have hbu := H0.out.2.1
                       have hwb := H0.out.1
                       have hg9 := HGu.out
                       have hz8 := HZ8.out
                       have Kia := (HZ.out.2.2.2.1.alloc (.cells #[.int .i64 a] 3)).grown hg2 (fun e => by have := hsv.out _ e.symm; omega)
                       have Kta := (HZ.out.2.2.2.2.1.alloc (.cells #[.int .i64 a] 3)).grown hg2 (fun e => by have := hsv.out _ e.symm; omega)
                       have K8a := (HZ.out.2.2.2.2.2.1.alloc (.cells #[.int .i64 a] 3)).grown hg2 (fun e => by have := hsv.out _ e.symm; have := h78.out; omega)
                       have zz := Kia.cell 0
                       have zf := Kia.frozen 0
                       have ho2a := (HZ.out.2.1.alloc (.cells #[.int .i64 a] 3)).kept (row := sv.ownBlock) hg2 (.inr (fun he => by have := hsv.out g he.symm; omega))
                       have hBua := (HZ.out.2.2.2.2.2.2.alloc (Nat.le_trans hbu HZ.out.2.2.1) (.cells #[.int .i64 a] 3)).trans ⟨hg2.os, hg2.tape, hg2.output, hg2.size, fun k hk _ => hg2.block k (by have := HZ.out.2.2.1; simp; omega) (fun e => by have := hsv.out _ e.symm; omega)⟩
                       have Ki3 : Blk (w2.setCell ⟨bi, 0, none⟩ (.slice A2 (m2 + 1) c2')) bi 54 #[.slice A2 (m2 + 1) c2'] := by simpa using Kia.set_ 0 (.slice A2 (m2 + 1) c2')
                       have Kt3 := Kta.far (p := ⟨bi, 0, none⟩) (by have := H0.out.2.2.2; simp; omega) (.slice A2 (m2 + 1) c2')
                       have K83 := K8a.far (p := ⟨bi, 0, none⟩) (by simp; omega) (.slice A2 (m2 + 1) c2')
                       have ho13 := own_set hown2 (g := bi) (by omega) 0 (.slice A2 (m2 + 1) c2')
                       have ho23 := own_set ho2a (g := bi) (by omega) 0 (.slice A2 (m2 + 1) c2')
                       have hBu3 := hBua.setCell (p := ⟨bi, 0, none⟩) (.inl rfl) (.slice A2 (m2 + 1) c2')
                       have ho3 := set3_own (h' := ph) (l' := pl) (x' := z) ho23 (mid_at HX.out)
                       rw [HST.out] at ho3
                       have ho4 := own_set (own_set (own_set ho13 hg9.1 (k * 5 + 2) (.int .u64 (ph : Int))) hg9.1 (k * 5 + 2 + 1) (.int .u64 (pl : Int))) hg9.1 (k * 5 + 2 + 2) (.int .u64 (z : Int))
                       rw [← vs_one, ← vs_append, ← Hi3.out] at ho4
                       have hB4 := hBu3.trans (below_but (set3_below (u := w2.setCell ⟨bi, 0, none⟩ (.slice A2 (m2 + 1) c2')) (g := g) (o := k * 5) (a := ph) (c := pl) (d := z) hg9.2) (some bi))
                       have Kt4 := ((Kt3.far (p := ⟨g, k * 5 + 2, none⟩) (by simp; omega) (.int .u64 (ph : Int))).far (p := ⟨g, k * 5 + 2 + 1, none⟩) (by simp; omega) (.int .u64 (pl : Int))).far (p := ⟨g, k * 5 + 2 + 2, none⟩) (by simp; omega) (.int .u64 (z : Int))
                       have Ki4 := ((Ki3.far (p := ⟨g, k * 5 + 2, none⟩) (by simp; omega) (.int .u64 (ph : Int))).far (p := ⟨g, k * 5 + 2 + 1, none⟩) (by simp; omega) (.int .u64 (pl : Int))).far (p := ⟨g, k * 5 + 2 + 2, none⟩) (by simp; omega) (.int .u64 (z : Int))
                       unfold set3 at ho3 hB4
                       have HE := Lib.hid (And.intro Kt4 (And.intro Ki4 (And.intro Hm3.out (And.intro ho4 (And.intro ho3 hB4)))))
                       have f0 := ho23.frozenAt (k * 5 + 2)
                       have f1 := ho23.frozenAt (k * 5 + 2 + 1)
                       have f2 := ho23.frozenAt (k * 5 + 2 + 2)
                       have cc : ∀ j, j < 5 → (w2.setCell ⟨bi, 0, none⟩ (.slice A2 (m2 + 1) c2')).cell? ⟨g, k * 5 + j, none⟩ = (rv (a, e, h, l, z))[j]? := fun j hj => (ho23.cellAt (k * 5 + j) (by omega)).trans (flat_at rv length_rv (mid_at HX.out) j hj)
                       have d2 : (w2.setCell ⟨bi, 0, none⟩ (.slice A2 (m2 + 1) c2')).cell? ⟨g, k * 5 + 2, none⟩ = some (.int .u64 (h : Int)) := cc 2 (by omega)
                       have d3 : (w2.setCell ⟨bi, 0, none⟩ (.slice A2 (m2 + 1) c2')).cell? ⟨g, k * 5 + 2 + 1, none⟩ = some (.int .u64 (l : Int)) := cc 3 (by omega)
                       have d4 : (w2.setCell ⟨bi, 0, none⟩ (.slice A2 (m2 + 1) c2')).cell? ⟨g, k * 5 + 2 + 2, none⟩ = some (.int .u64 (z : Int)) := cc 4 (by omega)
                       have k0' := K83.cell 0
                       have k1' := K83.cell 1
                       have k2' := K83.cell 2
                       clear hown2 hg2 Kia Kta K8a ho2a hBua Ki3 Kt3 K83 ho13 ho23 hBu3 ho3 ho4 hB4 Kt4 Ki4 cc hti hbu hwb hg9 hz8 k0 k1 k2 r0 r2 r3 r4 i9))
            go_roundw
            case rel => exact ⟨k + 1, m2 + 1, _, Hk.out.1, Hk.out.2, by go_num, HE.out.1, HE.out.2.1, Lib.hid HE.out.2.2.1, HE.out.2.2.2.1, HE.out.2.2.2.2.1, HE.out.2.2.2.2.2⟩
            case measure => simp [intOf]; omega
          · have c1 : ((ph : Int) == (h : Int)) = false := by simp; omega
            clear e1
            go_wp2_with (
              at_builtin
              go_must (refine wpList_append_own _ rfl (.tmp 37) (.tmp 40) 54 rfl u.heap.size 3 i0 (.int .i64 0) 1 8 Try.underlying54 hi0 hz0 hz1 hz2 rfl (by decide) _ m2 _ rfl (HZ.out.1.alloc _) ⟨_, 0, none⟩ 1 1 [.int .i64 a] rfl rfl (cell_one_new _ _ _) (by simp [Value.oneCell']) (by simp only [maxLen]; omega) (by omega) (by have := HZ.out.2.2.1; simp; omega) ?_
                       intro v2 w2 hown2 hg2 _
                       obtain ⟨A2, c2', rfl, _, _⟩ := own_reads hown2
                       have hti := H0.out.2.2.1
                       have hbu := H0.out.2.1
                       have hwb := H0.out.1
                       have hg9 := HGu.out
                       have hz8 := HZ8.out
                       have Kia := (HZ.out.2.2.2.1.alloc (.cells #[.int .i64 a] 3)).grown hg2 (fun e => by have := hsv.out _ e.symm; omega)
                       have Kta := (HZ.out.2.2.2.2.1.alloc (.cells #[.int .i64 a] 3)).grown hg2 (fun e => by have := hsv.out _ e.symm; omega)
                       have K8a := (HZ.out.2.2.2.2.2.1.alloc (.cells #[.int .i64 a] 3)).grown hg2 (fun e => by have := hsv.out _ e.symm; have := h78.out; omega)
                       have zz := Kia.cell 0
                       have zf := Kia.frozen 0
                       have ho2a := (HZ.out.2.1.alloc (.cells #[.int .i64 a] 3)).kept (row := sv.ownBlock) hg2 (.inr (fun he => by have := hsv.out g he.symm; omega))
                       have hBua := (HZ.out.2.2.2.2.2.2.alloc (Nat.le_trans hbu HZ.out.2.2.1) (.cells #[.int .i64 a] 3)).trans ⟨hg2.os, hg2.tape, hg2.output, hg2.size, fun k hk _ => hg2.block k (by have := HZ.out.2.2.1; simp; omega) (fun e => by have := hsv.out _ e.symm; omega)⟩
                       have Ki3 : Blk (w2.setCell ⟨bi, 0, none⟩ (.slice A2 (m2 + 1) c2')) bi 54 #[.slice A2 (m2 + 1) c2'] := by simpa using Kia.set_ 0 (.slice A2 (m2 + 1) c2')
                       have Kt3 := Kta.far (p := ⟨bi, 0, none⟩) (by have := H0.out.2.2.2; simp; omega) (.slice A2 (m2 + 1) c2')
                       have K83 := K8a.far (p := ⟨bi, 0, none⟩) (by simp; omega) (.slice A2 (m2 + 1) c2')
                       have ho13 := own_set hown2 (g := bi) (by omega) 0 (.slice A2 (m2 + 1) c2')
                       have ho23 := own_set ho2a (g := bi) (by omega) 0 (.slice A2 (m2 + 1) c2')
                       have hBu3 := hBua.setCell (p := ⟨bi, 0, none⟩) (.inl rfl) (.slice A2 (m2 + 1) c2')
                       have ho3 := set3_own (h' := ph) (l' := pl) (x' := z) ho23 (mid_at HX.out)
                       rw [HST.out] at ho3
                       have ho4 := own_set (own_set (own_set ho13 hg9.1 (k * 5 + 2) (.int .u64 (ph : Int))) hg9.1 (k * 5 + 2 + 1) (.int .u64 (pl : Int))) hg9.1 (k * 5 + 2 + 2) (.int .u64 (z : Int))
                       rw [← vs_one, ← vs_append, ← Hi3.out] at ho4
                       have hB4 := hBu3.trans (below_but (set3_below (u := w2.setCell ⟨bi, 0, none⟩ (.slice A2 (m2 + 1) c2')) (g := g) (o := k * 5) (a := ph) (c := pl) (d := z) hg9.2) (some bi))
                       have Kt4 := ((Kt3.far (p := ⟨g, k * 5 + 2, none⟩) (by simp; omega) (.int .u64 (ph : Int))).far (p := ⟨g, k * 5 + 2 + 1, none⟩) (by simp; omega) (.int .u64 (pl : Int))).far (p := ⟨g, k * 5 + 2 + 2, none⟩) (by simp; omega) (.int .u64 (z : Int))
                       have Ki4 := ((Ki3.far (p := ⟨g, k * 5 + 2, none⟩) (by simp; omega) (.int .u64 (ph : Int))).far (p := ⟨g, k * 5 + 2 + 1, none⟩) (by simp; omega) (.int .u64 (pl : Int))).far (p := ⟨g, k * 5 + 2 + 2, none⟩) (by simp; omega) (.int .u64 (z : Int))
                       unfold set3 at ho3 hB4
                       have HE := Lib.hid (And.intro Kt4 (And.intro Ki4 (And.intro Hm3.out (And.intro ho4 (And.intro ho3 hB4)))))
                       have f0 := ho23.frozenAt (k * 5 + 2)
                       have f1 := ho23.frozenAt (k * 5 + 2 + 1)
                       have f2 := ho23.frozenAt (k * 5 + 2 + 2)
                       have cc : ∀ j, j < 5 → (w2.setCell ⟨bi, 0, none⟩ (.slice A2 (m2 + 1) c2')).cell? ⟨g, k * 5 + j, none⟩ = (rv (a, e, h, l, z))[j]? := fun j hj => (ho23.cellAt (k * 5 + j) (by omega)).trans (flat_at rv length_rv (mid_at HX.out) j hj)
                       have d2 : (w2.setCell ⟨bi, 0, none⟩ (.slice A2 (m2 + 1) c2')).cell? ⟨g, k * 5 + 2, none⟩ = some (.int .u64 (h : Int)) := cc 2 (by omega)
                       have d3 : (w2.setCell ⟨bi, 0, none⟩ (.slice A2 (m2 + 1) c2')).cell? ⟨g, k * 5 + 2 + 1, none⟩ = some (.int .u64 (l : Int)) := cc 3 (by omega)
                       have d4 : (w2.setCell ⟨bi, 0, none⟩ (.slice A2 (m2 + 1) c2')).cell? ⟨g, k * 5 + 2 + 2, none⟩ = some (.int .u64 (z : Int)) := cc 4 (by omega)
                       have k0' := K83.cell 0
                       have k1' := K83.cell 1
                       have k2' := K83.cell 2
                       clear hown2 hg2 Kia Kta K8a ho2a hBua Ki3 Kt3 K83 ho13 ho23 hBu3 ho3 ho4 hB4 Kt4 Ki4 cc hti hbu hwb hg9 hz8 k0 k1 k2 r0 r2 r3 r4 i9))
            go_roundw
            case rel => exact ⟨k + 1, m2 + 1, _, Hk.out.1, Hk.out.2, by go_num, HE.out.1, HE.out.2.1, Lib.hid HE.out.2.2.1, HE.out.2.2.2.1, HE.out.2.2.2.2.1, HE.out.2.2.2.2.2⟩
            case measure => simp [intOf]; omega
        · rw [if_neg hov] at hlv
          have q1 := (Prod.mk.inj (Prod.mk.inj hlv).2).2
          have hcl : clipR (th * 2 ^ 64 + tl) x qs = ([], 131) := by
            unfold clipR
            rw [mapF_none (clipF_no hbl hov) qs (List.mem_of_getElem? HX.out)]
          have HC := Lib.hid hcl
          have HE := Lib.hid (And.intro hBu (Ki.cell 0))
          subst q1
          clear hlv hbl hov hcl ho1 ho2 hBu Kt Ki K7 K8
          go_wp2
          go_ret2
          rw [HC.out]
          refine ⟨⟨_, _, _, rfl, fun h0 => absurd h0 (by decide)⟩, HE.out.1, ⟨_, 0, HE.out.2, fun h0 => ?_⟩⟩
          rw [HC.out] at h0
          exact absurd h0 (by decide)
      · rw [if_neg hbl] at hlv
        have q1 := Prod.mk.inj hlv
        have q2 := Prod.mk.inj q1.2
        have hN : h * 2 ^ 64 + l = rp := q1.1.symm
        have hll : l < 2 ^ 64 := HV.out.2.2.1.2.1
        have q3 : ph = h := by rw [← HRes.out.2.1, ← hN]; omega
        have q4 : pl = l := by rw [← HRes.out.2.2, ← hN]; omega
        have q5 : rx = z := q2.1
        have q6 : re = 0 := q2.2
        have hst := mid_step (g := (clipN (th * 2 ^ 64 + tl) x)) HX.out
        rw [clipN_no hbl] at hst
        have ho3 := set3_own (h' := h) (l' := l) (x' := z) ho2 (mid_at HX.out)
        rw [hst] at ho3
        have hm3 : m2 = (belowI (th * 2 ^ 64 + tl) x (qs.take (k + 1))).length ∧ ∀ r ∈ qs.take (k + 1), rN r * x < (th * 2 ^ 64 + tl) * rW r → overW (th * 2 ^ 64 + tl) (rW r) x < 2 ^ 100 := by
          refine ⟨by rw [below_step HX.out, if_neg hbl, List.append_nil]; exact HM.out.1, fun r hr => ?_⟩
          rw [List.take_add_one, HX.out] at hr
          rcases List.mem_append.1 hr with hr | hr
          · exact HM.out.2 r hr
          · obtain rfl : r = (a, e, h, l, z) := by simpa using hr
            exact fun hb => absurd hb hbl
        have hi3 : belowI (th * 2 ^ 64 + tl) x (qs.take (k + 1)) = belowI (th * 2 ^ 64 + tl) x (qs.take k) := by rw [below_step HX.out, if_neg hbl, List.append_nil]
        have ho4 := own_set (own_set (own_set ho1 HGu.out.1 (k * 5 + 2) (.int .u64 (h : Int))) HGu.out.1 (k * 5 + 2 + 1) (.int .u64 (l : Int))) HGu.out.1 (k * 5 + 2 + 2) (.int .u64 (z : Int))
        rw [← hi3] at ho4
        have hB4 := hBu.trans (below_but (set3_below (u := Y2) (g := g) (o := k * 5) (a := h) (c := l) (d := z) HGu.out.2) (some bi))
        have hti := H0.out.2.2.1
        have hbb := H0.out.1
        have hgb2 := HGu.out.2
        have Kt4 := ((Kt.far (p := ⟨g, k * 5 + 2, none⟩) (by simp; omega) (.int .u64 (h : Int))).far (p := ⟨g, k * 5 + 2 + 1, none⟩) (by simp; omega) (.int .u64 (l : Int))).far (p := ⟨g, k * 5 + 2 + 2, none⟩) (by simp; omega) (.int .u64 (z : Int))
        have Ki4 := ((Ki.far (p := ⟨g, k * 5 + 2, none⟩) (by simp; omega) (.int .u64 (h : Int))).far (p := ⟨g, k * 5 + 2 + 1, none⟩) (by simp; omega) (.int .u64 (l : Int))).far (p := ⟨g, k * 5 + 2 + 2, none⟩) (by simp; omega) (.int .u64 (z : Int))
        unfold set3 at ho3 hB4
        have HE := Lib.hid (And.intro Kt4 (And.intro Ki4 (And.intro hm3 (And.intro ho4 (And.intro ho3 hB4)))))
        have f0 := ho2.frozenAt (k * 5 + 2)
        have f1 := ho2.frozenAt (k * 5 + 2 + 1)
        have f2 := ho2.frozenAt (k * 5 + 2 + 2)
        have cc : ∀ j, j < 5 → Y2.cell? ⟨g, k * 5 + j, none⟩ = (rv (a, e, h, l, z))[j]? := fun j hj => (ho2.cellAt (k * 5 + j) (by omega)).trans (flat_at rv length_rv (mid_at HX.out) j hj)
        have d2 : Y2.cell? ⟨g, k * 5 + 2, none⟩ = some (.int .u64 (h : Int)) := cc 2 (by omega)
        have d3 : Y2.cell? ⟨g, k * 5 + 2 + 1, none⟩ = some (.int .u64 (l : Int)) := cc 3 (by omega)
        have d4 : Y2.cell? ⟨g, k * 5 + 2 + 2, none⟩ = some (.int .u64 (z : Int)) := cc 4 (by omega)
        subst q6 q5 q4 q3
        have k0 := K8.cell 0
        have k1 := K8.cell 1
        have k2 := K8.cell 2
        have r2 := K7.cell 2
        have r3 := K7.cell 3
        have r4 := K7.cell 4
        have Hk : Hid (k + 1 ≤ n ∧ m2 ≤ k + 1) := Lib.hid ⟨hlt, by omega⟩
        clear hlv hbl q1 q2 hN hll hst ho1 ho2 ho3 ho4 hB4 hBu Kt Ki Kt4 Ki4 K7 K8 hm3 hi3 cc hti hbb hgb2
        go_wp2
        go_roundw
        case rel => exact ⟨k + 1, m2, sv, Hk.out.1, Hk.out.2, by go_num, HE.out.1, HE.out.2.1, Lib.hid HE.out.2.2.1, HE.out.2.2.2.1, HE.out.2.2.2.2.1, HE.out.2.2.2.2.2⟩
        case measure => simp [intOf]; omega
    · obtain rfl : k = n := by omega
      have hok : ∀ r ∈ qs, rN r * x < (th * 2 ^ 64 + tl) * rW r → overW (th * 2 ^ 64 + tl) (rW r) x < 2 ^ 100 := fun r hr => HM.out.2 r (by rw [List.take_of_length_le (by rw [HQ.out.2.2.1]; exact Nat.le_refl _)]; exact hr)
      have hcl : clipR (th * 2 ^ 64 + tl) x qs = (qs.map (clipN (th * 2 ^ 64 + tl) x), 0) := by
        unfold clipR
        rw [mapF_some qs (fun r hr => clipF_ok (hok r hr))]
      have HC := Lib.hid hcl
      have HE := Lib.hid (And.intro ho1 (And.intro ho2 (And.intro hBu Ki)))
      clear hok hcl ho1 ho2 hBu Ki Kt
      go_wp2
      go_ret2
      rw [HC.out]
      refine ⟨⟨_, _, _, rfl, fun _ => ⟨?_, ?_⟩⟩, HE.out.2.2.1, ?_⟩
      · rw [List.length_map, HQ.out.2.2.1]
      · rw [← mid_all (g := (clipN (th * 2 ^ 64 + tl) x)) (qs := qs) (k := k) (by rw [HQ.out.2.2.1]; exact Nat.le_refl _)]
        exact HE.out.2.1
      · refine ⟨sv, m2, HE.out.2.2.2.cell 0, fun _ => ⟨?_, ?_⟩⟩
        · rw [HM.out.1, List.take_of_length_le (by rw [HQ.out.2.2.1]; exact Nat.le_refl _)]
        · have q := HE.out.1
          rw [List.take_of_length_le (by rw [HQ.out.2.2.1]; exact Nat.le_refl _)] at q
          exact own_down q (Nat.le_trans H0.out.1 H0.out.2.1)

end Go.Proofs.Ytfgabmelmopgdaa
namespace Go.Proofs.Ytfgabmelmopgdaa
open Go.RowKit

theorem results_cell3 {P : Program} {fn : Func} {p q r : Tmp} {ty : TypeId} (h : fn.results = #[.cell p ty, .tmp q, .tmp r]) (tmps : Array Value) (w : World) (g : Nat) (t : TypeId) (cs : Array Value) (d : TypeDesc)
    (hp : tmps.getD p undef = .pointer (some ⟨g, 0, none⟩)) (hg : w.heap[g]? = some (.cells cs t (0, 0)))
    (hu : P.underlying ty = some d) (hd : (match d with | .struct _ | .array _ _ => true | _ => false) = true) (hi : (P.info? ty).map (·.size) = some cs.size) :
    (results fn tmps).run P w = .ok (.tuple #[.agg cs, tmps.getD q undef, tmps.getD r undef]) w := by
  have hp' : tmps[p]?.getD undef = .pointer (some ⟨g, 0, none⟩) := by simpa using hp
  simp [results, h, hp', asAddr, run_loadVar_row w g t ty cs (0, 0) d hg hu hd hi]
/-- a queue and numbers of its own, and an error -/
def GivesC (r : List Rn × List Int × Int) (w : World) (e : Ending) (w' : World) : Prop :=
  ∃ A n c B m d, e = .returned (.tuple #[.agg #[.slice A n c], .slice B m d, .int .i64 r.2.2]) ∧ r.1.length = n ∧ w'.ownsRow w.heap.size 40 5 (.slice A n c) n (flat rv r.1) ∧ r.2.1.length = m ∧ w'.ownsRow w.heap.size 3 1 (.slice B m d) m (vs r.2.1) ∧ Below w.heap.size w w'
theorem clip_none {qs : List Rn} (h : (topQ qs).2 = false) : clipQ qs = ([], [], chkQ qs) ∧ topQ qs = ((0, 0, 0), false) := by
  unfold topQ at h ⊢
  by_cases hq : rightQ qs = true ∧ 0 < qs.length
  · rw [if_pos hq] at h; cases h
  · rw [if_neg hq]
    refine ⟨?_, Eq.refl _⟩
    unfold clipQ chkQ
    cases hr : rightQ qs with
    | false => rw [if_pos (Eq.refl _), if_neg (by simp)]
    | true =>
      have hl : qs.length = 0 := by
        rcases Nat.eq_zero_or_pos qs.length with h0 | h0
        · exact h0
        · exact absurd ⟨hr, h0⟩ hq
      rw [if_neg (by simp), if_pos hl, if_pos (Eq.refl _)]
theorem top_yes {qs : List Rn} (h : (topQ qs).2 = true) : RQ qs ∧ 0 < qs.length ∧ topQ qs = (topT qs, true) := by
  unfold topQ at h ⊢
  by_cases hq : rightQ qs = true ∧ 0 < qs.length
  · rw [if_pos hq]
    exact ⟨rightQ_iff.1 hq.1, hq.2, Eq.refl _⟩
  · rw [if_neg hq] at h; cases h
theorem clip_yes {qs : List Rn} (hR : RQ qs) (h0 : 0 < qs.length) : clipQ qs = ((clipR (lowQ qs) (fW (topT qs)) qs).1, (if (clipR (lowQ qs) (fW (topT qs)) qs).2 = 0 then belowI (lowQ qs) (fW (topT qs)) qs else []), (clipR (lowQ qs) (fW (topT qs)) qs).2) := by
  unfold clipQ clipR
  rw [if_neg (by rw [rightQ_iff.2 hR]; simp), if_neg (by omega)]
  cases mapF (clipF (lowQ qs) (fW (topT qs))) qs with
  | none => simp
  | some m => simp
theorem xc_set {bi B L x g i : Nat} {qs : List Rn} {u : World} {v : Value} (h : XC bi B L x qs u) (h1 : bi ≠ g) (h2 : g < B + 2) : XC bi B L x qs (u.setCell ⟨g, i, none⟩ v) := by
  obtain ⟨sv, m, hc, ho⟩ := h
  refine ⟨sv, m, ?_, fun h0 => ⟨(ho h0).1, own_set (ho h0).2 h2 i v⟩⟩
  rw [World.cell?_setCell_other u _ _ v (fun e => by injection e with e; exact h1 e.symm)]
  exact hc
theorem clipR_no {L x : Nat} {qs : List Rn} (h : (clipR L x qs).2 ≠ 0) : (clipR L x qs).1 = [] := by
  unfold clipR at h ⊢
  cases hm : mapF (clipF L x) qs with
  | none => exact Eq.refl _
  | some m => rw [hm] at h; exact absurd (Eq.refl _) h

set_option maxRecDepth 100000 in
set_option maxHeartbeats 16000000 in
theorem clip_any (A : Option Addr) (n c : Nat) (qs : List Rn) (w : World) (hG : QR w A n c qs) (hn : n ≤ 100) : Calls Try.prog 25 #[.agg #[.slice A n c]] w (GivesC (clipQ qs) w) := by
  obtain ⟨K0, K, GB⟩ := blks2 w 26 26 #[.slice A n c] #[.slice none 0 0]
  have HG := Lib.hid hG
  have HTo := Lib.hid (fun (u : World) (h : Below w.heap.size w u) => top_any A n c qs u (HG.out.below h) hn)
  cases ht : (topQ qs).2 with
  | false =>
    obtain ⟨e1, e2⟩ := clip_none ht
    have HCk := Lib.hid (fun (u : World) (h : Below w.heap.size w u) => qcheck_any A n c qs u (HG.out.below h))
    rw [e1]
    rw [e2] at HTo
    obtain ⟨E, hE⟩ : ∃ E, chkQ qs = E := ⟨_, rfl⟩
    rw [hE] at HCk ⊢
    unfold fr at HTo
    clear e1 e2 ht hG hE
    go_enter Try.func25, Try.ntmps25
    have zK00 := K0.cell 0
    go_wp2_with fail
    refine (HTo.out _ GB).mono ?_
    rintro e w1 ⟨rfl, h9⟩
    replace K0 := K0.below h9 K0.lt
    replace K := K.below h9 K.lt
    replace GB := GB.trans (h9.mono GB.size)
    clear h9
    clear zK00
    have hkl := K.lt
    have K5 := Blk.new w1 36 #[.int .u64 0, .int .u64 0, .int .u64 0]
    replace K0 := K0.alloc (.cells #[.int .u64 0, .int .u64 0, .int .u64 0] 36)
    replace K := K.alloc (.cells #[.int .u64 0, .int .u64 0, .int .u64 0] 36)
    replace GB := GB.alloc GB.size (.cells #[.int .u64 0, .int .u64 0, .int .u64 0] 36)
    have zK00 := K0.cell 0
    go_wp2_with fail
    refine (HCk.out _ GB).mono ?_
    rintro e w2 ⟨rfl, h9⟩
    replace K0 := K0.below h9 K0.lt
    replace K := K.below h9 K.lt
    replace K5 := K5.below h9 K5.lt
    replace GB := GB.trans (h9.mono GB.size)
    clear h9
    clear zK00
    have d0 := K.cell 0
    have f0 := K.frozen 0
    have HP := Lib.hid (put1 (x := .slice none 0 0) K GB (by omega))
    clear K GB
    clear K0 K5
    go_wp2_with fail
    exact bodyPost_ret (v := .tuple #[.agg #[.slice none 0 0], .slice none 0 0, .int .i64 E]) (results_cell3 Try.results25 _ _ _ _ _ _ rfl HP.out.1 Try.underlying26 rfl (by kernel_rfl)) rfl ⟨_, _, _, _, _, _, rfl, rfl, World.ownsRow_nil _ _ _ _, rfl, World.ownsRow_nil _ _ _ _, HP.out.2⟩
  | true =>
    obtain ⟨hR, h0, e2⟩ := top_yes ht
    rw [clip_yes hR h0]
    rw [e2] at HTo
    have htr := top_right hG.ur hR h0
    obtain ⟨⟨h, l, x⟩, hT⟩ : ∃ T, topT qs = T := ⟨_, rfl⟩
    have hlw : lowQ qs = (h * 2 ^ 64 + l) - 268435456 * x := by unfold lowQ fN fW; rw [hT]
    have hx' : fW (topT qs) = x := by unfold fW; rw [hT]
    rw [hx', hlw]
    rw [hT] at HTo htr
    have hrN : rightN (h * 2 ^ 64 + l) x = true := htr.1
    have q0 := rightN_true hrN
    have HLs := Lib.hid (fun (u : World) => less_call h l x (268435456 * x) u htr.2.1 htr.2.2 (by omega) (by omega))
    rw [show lessR (h * 2 ^ 64 + l) x (268435456 * x) = (h * 2 ^ 64 + l - 268435456 * x, x, 0) from if_pos hrN] at HLs
    obtain ⟨L, hL⟩ : ∃ L, h * 2 ^ 64 + l - 268435456 * x = L := ⟨_, rfl⟩
    have hLl : L < 2 ^ 100 := by omega
    rw [hL] at HLs ⊢
    simp only [fe_cells] at HLs
    obtain ⟨th, hth⟩ : ∃ j, L / 2 ^ 64 = j := ⟨_, rfl⟩
    obtain ⟨tl, htl⟩ : ∃ j, L % 2 ^ 64 = j := ⟨_, rfl⟩
    rw [hth, htl] at HLs
    have hLe : L = th * 2 ^ 64 + tl := by omega
    have hth2 : th < 2 ^ 64 := by omega
    have htl2 : tl < 2 ^ 64 := by omega
    have hlow : rightN (th * 2 ^ 64 + tl) x = true := by rw [← hLe]; exact rightN_yes q0.1 q0.2.1 hLl
    have HCh := Lib.hid (fun (X : World) (hB : Below w.heap.size w X) (b7 b9 : Nat) (hne : b7 ≠ b9) (K7 : Blk X b7 36 #[.int .u64 (th : Int), .int .u64 (tl : Int), .int .u64 (x : Int)]) (K9 : Blk X b9 54 #[.slice none 0 0]) =>
      changedClip2_any A n c qs (.pointer (some ⟨b7, 0, none⟩)) (.pointer (some ⟨b9, 0, none⟩)) (some b9) (clipR (th * 2 ^ 64 + tl) x qs) (XC b9 X.heap.size (th * 2 ^ 64 + tl) x qs) X (HG.out.below hB) (fun g hg => by injection hg with hg; subst hg; exact K9.lt) clipR_no
        (fun u g i v hg1 hg2 hX => xc_set hX (by have := K9.lt; omega) hg2) (clipdo_any b7 b9 qs th tl x X hR HG.out.ur hne K7 K9 hth2 htl2 hlow (by rw [HG.out.len]; omega)))
    rw [hLe]
    obtain ⟨⟨M, E⟩, hME⟩ : ∃ R, clipR (th * 2 ^ 64 + tl) x qs = R := ⟨_, rfl⟩
    have HXd : Hid (∀ (b9 B : Nat) (u : World), XC b9 B (th * 2 ^ 64 + tl) x qs u → ∃ sv m, u.cell? ⟨b9, 0, none⟩ = some sv ∧ (E = 0 → m = (belowI (th * 2 ^ 64 + tl) x qs).length ∧ u.ownsRow (B + 2) 3 1 sv m (vs (belowI (th * 2 ^ 64 + tl) x qs)))) := Lib.hid (fun b9 B u hX => by
      obtain ⟨sv, m, h1, h2⟩ := hX
      rw [hME] at h2
      exact ⟨sv, m, h1, h2⟩)
    have HM0 : Hid (E ≠ 0 → M = []) := Lib.hid (fun hE => by
      have q := clipR_no (L := th * 2 ^ 64 + tl) (x := x) (qs := qs)
      rw [hME] at q
      exact q hE)
    rw [hME] at HCh ⊢
    obtain ⟨bi, hbi⟩ : ∃ bi, belowI (th * 2 ^ 64 + tl) x qs = bi := ⟨_, rfl⟩
    rw [hbi] at HXd ⊢
    obtain ⟨IL, hIL⟩ : ∃ IL, (if E = 0 then bi else []) = IL := ⟨_, rfl⟩
    have HIL : Hid ((E = 0 → bi = IL) ∧ (E ≠ 0 → [] = IL)) := Lib.hid ⟨fun h0 => by rw [← hIL, if_pos h0], fun h0 => by rw [← hIL, if_neg h0]⟩
    rw [hIL]
    obtain ⟨XX, hXX⟩ : ∃ XX : Nat → Nat → World → Prop, (fun b9 B u => XC b9 B (th * 2 ^ 64 + tl) x qs u) = XX := ⟨_, rfl⟩
    have HCh2 : Hid (∀ (X : World) (hB : Below w.heap.size w X) (b7 b9 : Nat) (hne : b7 ≠ b9) (K7 : Blk X b7 36 #[.int .u64 (th : Int), .int .u64 (tl : Int), .int .u64 (x : Int)]) (K9 : Blk X b9 54 #[.slice none 0 0]), Calls Try.prog 51 #[.agg #[.slice A n c], .func (.func 54) #[] #[.pointer (some ⟨b7, 0, none⟩), .pointer (some ⟨b9, 0, none⟩)]] X (DoesQ (some b9) X.heap.size (M, E) (XX b9 X.heap.size) X)) := Lib.hid (by rw [← hXX]; exact HCh.out)
    replace HXd : Hid (∀ (b9 B : Nat) (u : World), XX b9 B u → ∃ sv m, u.cell? ⟨b9, 0, none⟩ = some sv ∧ (E = 0 → m = bi.length ∧ u.ownsRow (B + 2) 3 1 sv m (vs bi))) := Lib.hid (by rw [← hXX]; exact HXd.out)
    have hm : IntKind.u64.wrap (268435456 * (x : Int)) = ((268435456 * x : Nat) : Int) := by rw [IntKind.wrap_u64]; omega
    unfold fr at HTo
    clear hR h0 e2 htr hT hlw hx' hrN q0 hL hLl hth htl hLe hth2 htl2 hlow HCh hME hbi hXX hIL ht hG
    go_enter Try.func25, Try.ntmps25
    have zK00 := K0.cell 0
    go_wp2_with fail
    refine (HTo.out _ GB).mono ?_
    rintro e w1 ⟨rfl, h9⟩
    replace K0 := K0.below h9 K0.lt
    replace K := K.below h9 K.lt
    replace GB := GB.trans (h9.mono GB.size)
    clear h9
    clear zK00
    have hkl := K.lt
    have K5 := Blk.new w1 36 #[.int .u64 (h : Int), .int .u64 (l : Int), .int .u64 (x : Int)]
    replace K0 := K0.alloc (.cells #[.int .u64 (h : Int), .int .u64 (l : Int), .int .u64 (x : Int)] 36)
    replace K := K.alloc (.cells #[.int .u64 (h : Int), .int .u64 (l : Int), .int .u64 (x : Int)] 36)
    replace GB := GB.alloc GB.size (.cells #[.int .u64 (h : Int), .int .u64 (l : Int), .int .u64 (x : Int)] 36)
    have hkl2 := K.lt
    have zK50 := K5.cell 0
    have zK51 := K5.cell 1
    have zK52 := K5.cell 2
    go_wp2_with fail
    refine (HLs.out _).mono ?_
    rintro e w2 ⟨rfl, h9⟩
    replace hkl2 := Nat.lt_of_lt_of_le hkl2 h9.size
    replace K0 := K0.below h9 K0.lt
    replace K := K.below h9 K.lt
    replace K5 := K5.below h9 K5.lt
    replace GB := GB.trans (h9.mono GB.size)
    clear h9
    clear zK50 zK51 zK52
    clear K5
    have K7 := Blk.new w2 36 #[.int .u64 (th : Int), .int .u64 (tl : Int), .int .u64 (x : Int)]
    replace K0 := K0.alloc (.cells #[.int .u64 (th : Int), .int .u64 (tl : Int), .int .u64 (x : Int)] 36)
    replace K := K.alloc (.cells #[.int .u64 (th : Int), .int .u64 (tl : Int), .int .u64 (x : Int)] 36)
    replace GB := GB.alloc GB.size (.cells #[.int .u64 (th : Int), .int .u64 (tl : Int), .int .u64 (x : Int)] 36)
    have hk2 : w.heap.size + 1 < w2.heap.size := hkl2
    have K9 := Blk.new (w2.alloc (.cells #[.int .u64 (th : Int), .int .u64 (tl : Int), .int .u64 (x : Int)] 36)) 54 #[.slice none 0 0]
    replace K0 := K0.alloc (.cells #[.slice none 0 0] 54)
    replace K := K.alloc (.cells #[.slice none 0 0] 54)
    replace K7 := K7.alloc (.cells #[.slice none 0 0] 54)
    replace GB := GB.alloc GB.size (.cells #[.slice none 0 0] 54)
    rw [show (w2.alloc (.cells #[.int .u64 (th : Int), .int .u64 (tl : Int), .int .u64 (x : Int)] 36)).heap.size = w2.heap.size + 1 by simp] at K9
    go_upto_region 6 with fail
    obtain ⟨X, hX⟩ : ∃ X, (w2.alloc (.cells #[.int .u64 (th : Int), .int .u64 (tl : Int), .int .u64 (x : Int)] 36)).alloc (.cells #[.slice none 0 0] 54) = X := ⟨_, rfl⟩
    obtain ⟨g7, hg7⟩ : ∃ j, w2.heap.size = j := ⟨_, rfl⟩
    rw [hX] at K0 K K7 K9 GB ⊢
    rw [hg7] at K7 K9 hk2 ⊢
    clear hX hg7
    have CX := Lib.hid (HCh2.out X GB g7 (g7 + 1) (by omega) K7 K9)
    have z0 := K0.cell 0
    go_wp2_with fail
    refine CX.out.mono ?_
    rintro e w3 hd
    obtain ⟨A3, n3, c3, rfl, hl3, own3⟩ := hd.out
    obtain ⟨sv, m3, hsv, hown⟩ := HXd.out _ _ _ hd.more
    have hX1 : w.heap.size + 1 < X.heap.size := K.lt
    have hX9 : g7 + 1 < X.heap.size := K9.lt
    replace K := hd.but.blk K K.lt (fun e => by injection e with e; omega)
    have GB3 := GB.trans (hd.but.below (B' := w.heap.size) (Nat.le_of_lt (by omega)) (fun g hg => by injection hg with hg; omega))
    have hs3 : X.heap.size ≤ w3.heap.size := hd.but.size
    clear hd CX z0 K0 K7 K9 GB HCh2 HXd
    replace GB := GB3
    clear GB3
    have own4 := own3.alloc (.cells #[.slice A3 n3 c3] 26)
    clear own3
    have K10 := Blk.new w3 26 #[.slice A3 n3 c3]
    replace K := K.alloc (.cells #[.slice A3 n3 c3] 26)
    replace GB := GB.alloc GB.size (.cells #[.slice A3 n3 c3] 26)
    by_cases hE : E = 0
    · subst hE
      obtain ⟨hm3, ho9⟩ := hown rfl
      obtain rfl := HIL.out.1 rfl
      obtain ⟨B9, d9, rfl, _, _⟩ := own_reads ho9
      have hsv2 : (w3.alloc (.cells #[.slice A3 n3 c3] 26)).cell? ⟨g7 + 1, 0, none⟩ = some (.slice B9 m3 d9) := (World.cell?_alloc_lt w3 _ _ (by simp; omega)).trans hsv
      replace ho9 := ho9.alloc (.cells #[.slice A3 n3 c3] 26)
      clear hsv hown HM0 HIL
      go_upto_region 9 with fail
      obtain ⟨Y, hY⟩ : ∃ Y, w3.alloc (.cells #[.slice A3 n3 c3] 26) = Y := ⟨_, rfl⟩
      obtain ⟨g10, hg10⟩ : ∃ j, w3.heap.size = j := ⟨_, rfl⟩
      rw [hY] at K K10 GB own4 ho9 hsv2 ⊢
      have h10 : w.heap.size + 1 < g10 := by omega
      rw [hg10] at K10 ⊢
      clear hY hg10
      have KZ := K
      clear K
      replace KZ : Blk Y.drew _ _ _ := KZ
      replace K10 : Blk Y.drew _ _ _ := K10
      replace own4 := (show Y.drew.ownsRow _ _ _ _ _ _ from own4)
      replace ho9 := (show Y.drew.ownsRow _ _ _ _ _ _ from ho9)
      replace hsv2 : Y.drew.cell? _ = _ := hsv2
      replace GB := GB.drew
      refine wp_region_held_drew (S := fun u => Below w.heap.size w u ∧ Blk u g10 26 #[.slice A3 n3 c3] ∧ u.cell? ⟨g7 + 1, 0, none⟩ = some (.slice B9 m3 d9)) (by kernel_rfl) ⟨GB, K10, hsv2⟩ (fun hS => ?_)
      generalize Y.drew = V at KZ K10 GB own4 ho9 hsv2 hS ⊢
      refine wpAnyH_take (i := 0) (v := .agg #[.slice A3 n3 c3]) rfl (by kernel_rfl) (by kernel_rfl) (by kernel_rfl) (fun _ _ _ h => h) (Or.inl ⟨by kernel_rfl, fun u hSw => (by have q0 := hSw.2.1.cell 0; go_simp)⟩) hS ?_
      change wpAnyH _ _ _ _ _ _ _ (Act.put _ (some 40) _) _
      simp only [Act.put]
      try simp only [List.setIfInBounds_toArray, List.set_cons_zero, List.set_cons_succ]
      refine wpAnyH_take (i := 1) (v := .slice B9 m3 d9) rfl (by kernel_rfl) (by kernel_rfl) (by kernel_rfl) (fun _ _ _ h => h) (Or.inl ⟨by kernel_rfl, fun u hSw => (by have q0 := hSw.2.2; go_simp)⟩) hS ?_
      change wpAnyH _ _ _ _ _ _ _ (Act.put _ (some 41) _) _
      simp only [Act.put]
      try simp only [List.setIfInBounds_toArray, List.set_cons_zero, List.set_cons_succ]
      refine wpAnyH_ready (rs := [2]) (by kernel_rfl) (by simp) ?_
      refine AllReadyH.cons rfl (fun K hK => ?_) AllReadyH.nil
      have d0 := KZ.cell 0
      have f0 := KZ.frozen 0
      have HP := Lib.hid (put1 (x := .slice A3 n3 c3) KZ GB (by omega))
      have HO := Lib.hid (And.intro (own_down (own_set own4 (g := w.heap.size + 1) hX1 0 (.slice A3 n3 c3)) (show w.heap.size ≤ X.heap.size by omega)) (own_down (own_set ho9 (g := w.heap.size + 1) (by omega) 0 (.slice A3 n3 c3)) (show w.heap.size ≤ X.heap.size + 2 by omega)))
      have K10f := K10.far (p := ⟨w.heap.size + 1, 0, none⟩) (by simp; omega) (.slice A3 n3 c3)
      have hsvf := (World.cell?_setCell_other V ⟨w.heap.size + 1, 0, none⟩ ⟨g7 + 1, 0, none⟩ (.slice A3 n3 c3) (fun e => by injection e with e; omega)).trans hsv2
      go_simp
      refine hK.out _ _ ⟨HP.out.2, K10f, hsvf⟩ (fun hS => ?_)
      clear hK K d0 f0
      refine wpAnyH_take (i := 3) (v := .slice B9 m3 d9) rfl (by kernel_rfl) (by kernel_rfl) (by kernel_rfl) (fun _ _ _ h => h) (Or.inl ⟨by kernel_rfl, fun u hSw => (by go_simp)⟩) hS ?_
      change wpAnyH _ _ _ _ _ _ _ (Act.put _ (some 3) _) _
      simp only [Act.put]
      try simp only [List.setIfInBounds_toArray, List.set_cons_zero, List.set_cons_succ]
      refine wpAnyH_take (i := 4) (v := .int .i64 0) rfl (by kernel_rfl) (by kernel_rfl) (by kernel_rfl) (fun _ _ _ h => h) (Or.inl ⟨by kernel_rfl, fun u hSw => (by go_simp)⟩) hS ?_
      change wpAnyH _ _ _ _ _ _ _ (Act.put _ (some 4) _) _
      simp only [Act.put]
      try simp only [List.setIfInBounds_toArray, List.set_cons_zero, List.set_cons_succ]
      refine wpAnyH_done (by kernel_rfl) ?_ _
      clear hS
      go_wp2_with fail
      exact bodyPost_ret (v := .tuple #[.agg #[.slice A3 n3 c3], .slice B9 m3 d9, .int .i64 0]) (results_cell3 Try.results25 _ _ _ _ _ _ rfl HP.out.1 Try.underlying26 rfl (by kernel_rfl)) rfl ⟨_, _, _, _, _, _, rfl, hl3, HO.out.1, hm3.symm, HO.out.2, HP.out.2⟩
    · have e1 : (E != 0) = true := by simp [hE]
      obtain rfl := HM0.out hE
      obtain rfl := HIL.out.2 hE
      clear hown hsv HM0 HIL hE own4 K10
      go_upto_region 8 with fail
      obtain ⟨Y, hY⟩ : ∃ Y, w3.alloc (.cells #[.slice A3 n3 c3] 26) = Y := ⟨_, rfl⟩
      rw [hY] at K GB ⊢
      clear hY
      have d0 := K.cell 0
      have f0 := K.frozen 0
      have HP := Lib.hid (put1 (x := .slice none 0 0) K GB (by omega))
      clear K GB
      go_wp2_with fail
      exact bodyPost_ret (v := .tuple #[.agg #[.slice none 0 0], .slice none 0 0, .int .i64 E]) (results_cell3 Try.results25 _ _ _ _ _ _ rfl HP.out.1 Try.underlying26 rfl (by kernel_rfl)) rfl ⟨_, _, _, _, _, _, rfl, rfl, World.ownsRow_nil _ _ _ _, rfl, World.ownsRow_nil _ _ _ _, HP.out.2⟩
end Go.Proofs.Ytfgabmelmopgdaa
namespace Go.Proofs.Ytfgabmelmopgdaa
open Go.RowKit Go.Maps

theorem behind_call (h l x p q y k : Nat) (u : World) (hh : h < 2 ^ 64) (hl : l < 2 ^ 64) (hx : x < 2 ^ 64) (hp : p < 2 ^ 64) (hq : q < 2 ^ 64) (hy : y < 2 ^ 64) (hk : k < 2 ^ 64) :
    Calls Try.prog 26 #[.agg #[.int .u64 (h : Int), .int .u64 (l : Int), .int .u64 (x : Int)], .agg #[.int .u64 (p : Int), .int .u64 (q : Int), .int .u64 (y : Int)], .int .u64 (k : Int)] u (Said (.bool (behindB (h * 2 ^ 64 + l) x (p * 2 ^ 64 + q) y k)) u) := by
  have r := behind_ok (h * 2 ^ 64 + l) x (p * 2 ^ 64 + q) y k u (by omega) hx (by omega) hy hk
  rw [fq_of hl, fq_of hq] at r
  exact r
theorem cmpR_yes {N x M y : Nat} (h1 : rightN N x = true) (h2 : rightN M y = true) : cmpR N x M y = cmpW (N * y) (M * x) := by
  unfold cmpR
  rw [h1, h2, Bool.and_true, if_pos rfl]
theorem clip_bad {qs : List Rn} (h : (clipQ qs).2.2 ≠ 0) : (clipQ qs).1 = [] ∧ (clipQ qs).2.1 = [] := by
  unfold clipQ at h ⊢
  split
  · exact ⟨Eq.refl _, Eq.refl _⟩
  · split
    · exact ⟨Eq.refl _, Eq.refl _⟩
    · rename_i h1 h2
      rw [if_neg h1, if_neg h2] at h
      cases hm : mapF (clipF (lowQ qs) (fW (topT qs))) qs with
      | none => exact ⟨Eq.refl _, Eq.refl _⟩
      | some m => rw [hm] at h; exact absurd (Eq.refl _) h
theorem below_len2 (L x : Nat) (qs : List Rn) : (belowI L x qs).length ≤ qs.length := by
  unfold belowI
  rw [List.length_map]
  exact List.length_filter_le _ _
structure ClipsOk (qs L1 : List Rn) (I1 : List Int) : Prop where
  len : L1.length = qs.length
  rq : RQ L1
  uq : UQ L1
  again : clipQ L1 = (L1, [], 0)
  ids : I1.length ≤ qs.length
  idw : ∀ y ∈ I1, 1 ≤ y ∧ y ≤ 16
  any : (topQ qs).2 = (topQ L1).2
  top : (topQ qs).2 = true → rightN (fN (topQ qs).1) (fW (topQ qs).1) = true ∧ rightN (fN (topQ L1).1) (fW (topQ L1).1) = true ∧ (topQ qs).1.1 < 2 ^ 64 ∧ (topQ qs).1.2.1 < 2 ^ 64 ∧ (topQ L1).1.1 < 2 ^ 64 ∧ (topQ L1).1.2.1 < 2 ^ 64 ∧ fN (topQ L1).1 * fW (topQ qs).1 = fN (topQ qs).1 * fW (topQ L1).1
  each : ∀ r ∈ L1, ∃ r0, getQ qs r.1 = (r0, true) ∧ rightR r = true ∧ rightR r0 = true ∧ UR r ∧ UR r0 ∧ (topQ qs).2 = true ∧ ¬ (rN r * fW (topQ qs).1 + 268435456 * rW r * fW (topQ qs).1 < fN (topQ qs).1 * rW r) ∧
    (decide (rN r0 * fW (topQ qs).1 + 268435456 * rW r0 * fW (topQ qs).1 < fN (topQ qs).1 * rW r0) = decide (r.1 ∈ I1)) ∧ (r.1 ∉ I1 → r = r0) ∧ (r.1 ∈ I1 → rN r0 * rW r < rN r * rW r0)
theorem clips_ok {qs L1 : List Rn} {I1 : List Int} (hU : UQ qs) (h : clipQ qs = (L1, I1, 0)) : ClipsOk qs L1 I1 := by
  cases hr : rightQ qs with
  | false =>
    unfold clipQ at h
    rw [if_pos hr] at h
    exact absurd (congrArg (fun z => z.2.2) h) (by simp)
  | true =>
    have hR := rightQ_iff.1 hr
    by_cases h0 : qs.length = 0
    · have hq : qs = [] := List.eq_nil_of_length_eq_zero h0
      unfold clipQ at h
      rw [if_neg (by rw [hr]; simp), if_pos h0] at h
      injection h with e1 e2
      injection e2 with e2 _
      subst e1 e2 hq
      refine ⟨Eq.refl _, hR, hU, ?_, Nat.le_refl _, fun y hy => by (cases hy), Eq.refl _, fun ht => ?_, fun r hr2 => by cases hr2⟩
      · unfold clipQ
        rw [if_neg (by rw [hr]; simp), if_pos h0]
      · rw [show topQ ([] : List Rn) = ((0, 0, 0), false) from if_neg (fun q => by simp at q)] at ht
        cases ht
    · have hp : 0 < qs.length := by omega
      unfold clipQ at h
      rw [if_neg (by rw [hr]; simp), if_neg h0] at h
      cases hm : mapF (clipF (lowQ qs) (fW (topT qs))) qs with
      | none => rw [hm] at h; exact absurd (congrArg (fun z => z.2.2) h) (by simp)
      | some m =>
        rw [hm] at h
        injection h with e1 e2
        injection e2 with e2 _
        subst e1
        obtain ⟨hmm, hlt⟩ := mapF_map hm
        have hcf := clip_facts (k := 268435456) (L := lowQ qs) (by omega) hR hU hp (Eq.refl _) (Eq.refl _) (Eq.refl _) hlt
        have hcr := clip_right hR hU hlt
        rw [← hmm] at hcf hcr
        obtain ⟨hx0, hT, hn1, hn2⟩ := hcf
        have hlen : m.length = qs.length := by rw [hmm, List.length_map]
        have hpm : 0 < m.length := by omega
        have t1 : topQ qs = (topT qs, true) := if_pos ⟨hr, hp⟩
        have t2 : topQ m = (topT m, true) := if_pos ⟨rightQ_iff.2 hcr.1, hpm⟩
        have r1 := top_right hU hR hp
        have r2 := top_right hcr.2 hcr.1 hpm
        have hce := clip_each (L := lowQ qs) (x := fW (topT qs)) hR hx0
        rw [← hmm] at hce
        refine ⟨hlen, hcr.1, hcr.2, ?_, by rw [← e2]; exact below_len2 _ _ _, fun y hy => ?_, by rw [t1, t2], fun _ => by rw [t1, t2]; exact ⟨r1.1, r2.1, r1.2.1, r1.2.2, r2.2.1, r2.2.2, hT⟩, fun r hrm => ?_⟩
        · have hs := mapF_same (L := lowQ m) (x := fW (topT m)) (l := m) (fun r hrm hlt2 => hn2 r hrm ((low_iff _ _ _ _ _).2 hlt2))
          unfold clipQ
          rw [if_neg (by rw [rightQ_iff.2 hcr.1]; simp), if_neg (by omega), hs.1, hs.2]
        · rw [← e2] at hy
          unfold belowI at hy
          obtain ⟨z, hz, rfl⟩ := List.mem_map.1 hy
          exact (rightR_iff.1 (hR.each z (List.mem_filter.1 hz).1)).1
        · obtain ⟨r0, hk, hin, _, hup, hst⟩ := hce r hrm
          have hm0 := (kf_some hk).1
          rw [t1]
          refine ⟨r0, ?_, hcr.1.each r hrm, hR.each r0 hm0, hcr.2 r hrm, hU r0 hm0, Eq.refl _, hn1 r hrm, ?_, fun hni => hst (fun hb => hni ?_), fun hi => hup (hin.1 ?_)⟩
          · unfold getQ
            rw [if_pos hr, hk]
          · rw [← e2]
            refine decide_eq_decide.2 ⟨fun hb => hin.2 ((low_iff _ _ _ _ _).1 hb), fun hb => (low_iff _ _ _ _ _).2 (hin.1 hb)⟩
          · rw [← e2]; exact hin.2 hb
          · rw [e2]; exact hi

/-! ### the map of numbers -/
set_option maxRecDepth 100000 in
theorem zero_bool (w : World) : (zeroValue 4).run Try.prog w = .ok (.bool false) w := by kernel_rfl
def HoldsB (D : DataW Unit) (L : List Int) : Prop := ∀ x : Int, D.atKey (.int .i64 x) (.lit (.bool false)) = .lit (.bool (decide (x ∈ L)))
theorem holdsB_empty : HoldsB (.map []) [] := fun l => atKey_of_not_has (by simp [has_eq]) _
theorem holdsB_put {D : DataW Unit} {L : List Int} {y : Int} (h : HoldsB D L) (hD : IsMap D) : HoldsB (D.put (.int .i64 y) (.lit (.bool true))) (L ++ [y]) := fun x => by
  by_cases e : x = y
  · subst e
    rw [atKey_put_same hD (by trivial)]
    simp
  · rw [atKey_put_other (by intro h; injection h with _ h; exact e h), h x]
    simp [e]
set_option maxRecDepth 100000 in
theorem bool_inv {v : Value} {x : Bool} {ps : List MemPlace} (h : plainElem (H := Unit) Try.prog 4 v = some (.lit (.bool x), ps)) : v = .bool x := by
  unfold plainElem at h
  rw [Try.underlying4] at h
  cases v <;> simp at h
  rw [h.1]
/-- block b is a map that tells who is in L -/
structure MB (w : World) (b : Nat) (L : List Int) : Prop where
  own : ∃ n D, n ≤ L.length ∧ w.ownsMap Try.prog 3 (plainElem (H := Unit) Try.prog 4) b n D ∧ HoldsB D L
section
variable {w w' : World} {b : Nat} {L : List Int}
theorem MB.made (w : World) : MB (w.alloc (.map #[] 0)) w.heap.size [] := ⟨0, .map [], Nat.le_refl _, World.ownsMap_made _ _ _ _, holdsB_empty⟩
theorem MB.lt (h : MB w b L) : b < w.heap.size := by obtain ⟨n, D, _, h1, _⟩ := h.own; exact h1.lt
theorem MB.alloc (h : MB w b L) (o : Obj) : MB (w.alloc o) b L := by obtain ⟨n, D, h0, h1, h2⟩ := h.own; exact ⟨n, D, h0, h1.alloc o, h2⟩
theorem MB.drew (h : MB w b L) : MB w.drew b L := by obtain ⟨n, D, h0, h1, h2⟩ := h.own; exact ⟨n, D, h0, h1.drew, h2⟩
theorem MB.below {B : Nat} (h : MB w b L) (hb : Below B w w') (hB : b < B) : MB w' b L := by
  obtain ⟨n, D, h0, ⟨es, clock, hh, F, hs, hD⟩, h2⟩ := h.own
  exact ⟨n, D, h0, ⟨es, clock, (hb.block b hB).trans hh, F, hs, hD⟩, h2⟩
set_option maxRecDepth 100000 in
theorem MB.look (h : MB w b L) (x : Int) (hx : (Lit.int .i64 x).wf = true) : (Instr.lookup 57 (.map (some b)) (.int .i64 x) false).run Try.prog w = .ok (.bool (decide (x ∈ L))) w := by
  obtain ⟨n, D, h0, h1, h2⟩ := h.own
  obtain ⟨v, ps, hrun, hv⟩ := h1.lookup (int_keyed Try.underlying3) Try.underlying57 (zero_bool w) (plainElem_bool Try.underlying4 false) (key := .int .i64 x) (kl := .int .i64 x) (keyOf_int_mk Try.underlying3 hx)
  rw [h2] at hv
  rw [hrun, bool_inv hv]
end

end Go.Proofs.Ytfgabmelmopgdaa
