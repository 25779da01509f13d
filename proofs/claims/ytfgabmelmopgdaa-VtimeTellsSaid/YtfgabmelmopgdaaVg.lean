/-
  The landed vtime: what is done to each of several runners (changedEach's closure, for Run's and for Weigh's). No statement is proved here.
-/
import Derived.Test.YtfgabmelmopgdaaVf
namespace Go.Proofs.Ytfgabmelmopgdaa
open Go.RowKit

/-- one step: a runner, and an error -/
def optS (S : Rn → Rn × Int) (r : Rn) : Option Rn := if (S r).2 = 0 then some (S r).1 else none
def runS (d : Nat) (r : Rn) : Rn × Int := (mkR r.1 r.2.1 (addR (rN r) (rW r) (r.2.1.toNat * d)).1 (addR (rN r) (rW r) (r.2.1.toNat * d)).2.1, (addR (rN r) (rW r) (r.2.1.toNat * d)).2.2)
def weighS (x : Nat) (each : Int) (r : Rn) : Rn × Int := (mkR r.1 each (overR (rN r) (rW r) x).1 (overR (rN r) (rW r) x).2.1, (overR (rN r) (rW r) x).2.2)
def Good (S : Rn → Rn × Int) : Prop := ∀ r, UR r → rightR r = true → ((S r).2 = 0 ∧ rightR (S r).1 = true ∧ UR (S r).1 ∧ (S r).1.1 = r.1) ∨ (S r).2 = 131
theorem right_n {r : Rn} (h : rightR r = true) : rightN (rN r) (rW r) = true := by
  have q := rightR_iff.1 h
  exact rightN_yes q.2.2.1.1 q.2.2.1.2 q.2.2.2
theorem addR_ok {N x n : Nat} (h : rightN N x = true) (h2 : N + n < 2 ^ 100) : addR N x n = (N + n, x, 0) := by unfold addR; rw [if_pos h, if_pos h2]
theorem addR_no {N x n : Nat} (h : rightN N x = true) (h2 : ¬ N + n < 2 ^ 100) : addR N x n = (0, 0, 131) := by unfold addR; rw [if_pos h, if_neg h2]
theorem overR_ok {N x m : Nat} (h : rightN N x = true) (hm : weightB m = true) (h2 : overW N m x < 2 ^ 100) : overR N x m = (overW N m x, m, 0) := by unfold overR; rw [if_pos h, if_pos hm, if_pos h2]
theorem overR_no {N x m : Nat} (h : rightN N x = true) (hm : weightB m = true) (h2 : ¬ overW N m x < 2 ^ 100) : overR N x m = (0, 0, 131) := by unfold overR; rw [if_pos h, if_pos hm, if_neg h2]
theorem lt128 {N : Nat} (h : N < 2 ^ 100) : N < 2 ^ 128 := by omega
theorem runS_ok {d : Nat} {r : Rn} (hr : rightR r = true) (h : rN r + r.2.1.toNat * d < 2 ^ 100) : runS d r = (mkR r.1 r.2.1 (rN r + r.2.1.toNat * d) (rW r), 0) := by
  unfold runS
  rw [addR_ok (right_n hr) h]
theorem runS_no {d : Nat} {r : Rn} (hr : rightR r = true) (h : ¬ rN r + r.2.1.toNat * d < 2 ^ 100) : runS d r = (mkR r.1 r.2.1 0 0, 131) := by
  unfold runS
  rw [addR_no (right_n hr) h]
theorem weighS_ok {x : Nat} {each : Int} {r : Rn} (hx : 1 ≤ x ∧ x ≤ 65535) (hr : rightR r = true) (h : overW (rN r) x (rW r) < 2 ^ 100) : weighS x each r = (mkR r.1 each (overW (rN r) x (rW r)) x, 0) := by
  unfold weighS
  rw [overR_ok (right_n hr) (weightB_yes hx.1 hx.2) h]
theorem weighS_no {x : Nat} {each : Int} {r : Rn} (hx : 1 ≤ x ∧ x ≤ 65535) (hr : rightR r = true) (h : ¬ overW (rN r) x (rW r) < 2 ^ 100) : weighS x each r = (mkR r.1 each 0 0, 131) := by
  unfold weighS
  rw [overR_no (right_n hr) (weightB_yes hx.1 hx.2) h]
theorem mk_right {i e : Int} {N x : Nat} (h1 : 1 ≤ i ∧ i ≤ 16) (h2 : 1 ≤ e ∧ e ≤ 8) (h3 : 1 ≤ x ∧ x ≤ 65535) (h4 : N < 2 ^ 100) : rightR (mkR i e N x) = true ∧ UR (mkR i e N x) :=
  ⟨rightR_iff.2 ⟨h1, h2, h3, (rN_mk i e N x).symm ▸ h4⟩, UR_mk (lt128 h4) (by omega)⟩
theorem run_good {d : Nat} : Good (runS d) := fun r _ hr => by
  have q := rightR_iff.1 hr
  obtain ⟨N, hN⟩ : ∃ N, rN r + r.2.1.toNat * d = N := ⟨_, rfl⟩
  have h1 := runS_ok (d := d) hr
  have h2 := runS_no (d := d) hr
  rw [hN] at h1 h2
  obtain ⟨x, hx⟩ : ∃ x, rW r = x := ⟨_, rfl⟩
  rw [hx] at h1 q
  obtain ⟨s, hs⟩ : ∃ s, runS d r = s := ⟨_, rfl⟩
  rw [hs] at h1 h2 ⊢
  clear hs hN
  by_cases h : N < 2 ^ 100
  · rw [h1 h]
    have m := mk_right q.1 q.2.1 q.2.2.1 h
    exact .inl ⟨rfl, m.1, m.2, rfl⟩
  · rw [h2 h]
    exact .inr rfl
theorem weigh_good {x : Nat} {each : Int} (hx : 1 ≤ x ∧ x ≤ 65535) (he : 1 ≤ each ∧ each ≤ 8) : Good (weighS x each) := fun r _ hr => by
  have q := rightR_iff.1 hr
  by_cases h : overW (rN r) x (rW r) < 2 ^ 100
  · rw [weighS_ok hx hr h]
    have m := mk_right q.1 he hx h
    exact .inl ⟨rfl, m.1, m.2, rfl⟩
  · rw [weighS_no hx hr h]
    exact .inr rfl
theorem run_opt {d : Nat} {r : Rn} (hr : rightR r = true) : optS (runS d) r = runF d r := by
  unfold optS runF
  by_cases h : rN r + r.2.1.toNat * d < 2 ^ 100
  · rw [runS_ok hr h, if_pos h, if_pos rfl]
  · rw [runS_no hr h, if_neg h, if_neg (fun e => by cases e)]
theorem weigh_opt {x : Nat} {each : Int} {r : Rn} (hx : 1 ≤ x ∧ x ≤ 65535) (hr : rightR r = true) : optS (weighS x each) r = weighF x each r := by
  unfold optS weighF
  by_cases h : overW (rN r) x (rW r) < 2 ^ 100
  · rw [weighS_ok hx hr h, if_pos h, if_pos rfl]
  · rw [weighS_no hx hr h, if_neg h, if_neg (fun e => by cases e)]
theorem eachF_cons {f : Rn → Option Rn} {l : List Rn} {i : Int} {is : List Int} {r : Rn} (h : kf l i = some r) : eachF f l (i :: is) = (match f r with | some s => eachF f (setK l s) is | none => none) := by
  show (match kf l i with | some r => (match f r with | some s => eachF f (setK l s) is | none => none) | none => none) = _
  rw [h]
theorem set_is {l : List Rn} (hR : Rise l) {s t : Rn} (hk : kf l s.1 = some t) {j : Int} (h : (kf l j).isSome = true) : (kf (setK l s) j).isSome = true := by
  rw [kf_set hR hk]
  split
  · rfl
  · exact h
theorem each_eq {f g : Rn → Option Rn} (hg : ∀ r, rightR r = true → f r = g r) (hf : ∀ r s, UR r → rightR r = true → f r = some s → rightR s = true ∧ UR s ∧ s.1 = r.1) : ∀ (is : List Int) (l : List Rn), RQ l → UQ l → eachF f l is = eachF g l is
  | [], _, _, _ => rfl
  | i :: is, l, hR, hU => by
    cases hk : kf l i with
    | none =>
      show (match kf l i with | some r => _ | none => none) = (match kf l i with | some r => _ | none => none)
      rw [hk]
    | some r =>
      have hr := hR.get hk
      have hu := hU r (kf_some hk).1
      rw [eachF_cons hk, eachF_cons hk, ← hg r hr]
      cases hs : f r with
      | none => rfl
      | some s =>
        have q := hf r s hu hr hs
        have hks : kf l s.1 = some r := by rw [q.2.2, kf_id hk]; exact hk
        exact each_eq hg hf is _ (hR.set q.1 hks) (fun y hy => by
          rcases (mem_set hR.rise hks).1 hy with rfl | hy
          · exact q.2.1
          · exact hU y hy.1)
theorem good_opt {S : Rn → Rn × Int} (hS : Good S) (r s : Rn) (hu : UR r) (hr : rightR r = true) (h : optS S r = some s) : rightR s = true ∧ UR s ∧ s.1 = r.1 := by
  unfold optS at h
  split at h
  · injection h with h
    subst h
    rcases hS r hu hr with q | q
    · exact q.2
    · omega
  · cases h
theorem flat_setT {l : List Rn} {p : Nat} {i e : Int} {h g x h' g' x' : Nat} (hx : l[p]? = some (i, e, h, g, x)) :
    (((flat rv l).set (p * 5 + 2) (.int .u64 (h' : Int))).set (p * 5 + 2 + 1) (.int .u64 (g' : Int))).set (p * 5 + 2 + 2) (.int .u64 (x' : Int)) = flat rv (l.set p (i, e, h', g', x')) := by
  induction l generalizing p with
  | nil => simp at hx
  | cons y l ih =>
    cases p with
    | zero =>
      simp only [List.getElem?_cons_zero, Option.some.injEq] at hx
      subst hx
      simp [flat_cons, rv]
    | succ p =>
      have q := ih (p := p) (by simpa using hx)
      rw [List.set_cons_succ, flat_cons, flat_cons, ← q, show (p + 1) * 5 = p * 5 + 5 by omega]
      obtain ⟨a, b, c, d, f⟩ := y
      simp [rv]
theorem flat_setE {l : List Rn} {p : Nat} {i e e' : Int} {h g x : Nat} (hx : l[p]? = some (i, e, h, g, x)) : (flat rv l).set (p * 5 + 1) (.int .i64 e') = flat rv (l.set p (i, e', h, g, x)) := by
  induction l generalizing p with
  | nil => simp at hx
  | cons y l ih =>
    cases p with
    | zero =>
      simp only [List.getElem?_cons_zero, Option.some.injEq] at hx
      subst hx
      simp [flat_cons, rv]
    | succ p =>
      have q := ih (p := p) (by simpa using hx)
      rw [List.set_cons_succ, flat_cons, flat_cons, ← q, show (p + 1) * 5 = p * 5 + 5 by omega]
      obtain ⟨a, b, c, d, f⟩ := y
      simp [rv]

/-- a closure's step on a row of one's own -/
def StepOk (D : Nat) (ptrs : List Value) (S : Rn → Rn × Int) (w : World) : Prop :=
  ∀ (b g n c p : Nat) (qs : List Rn) (r : Rn) (u : World), w.heap.size ≤ b → b ≤ u.heap.size → Below w.heap.size w u → u.ownsRow b 40 5 (.slice (some ⟨g, 0, none⟩) n c) n (flat rv qs) → qs[p]? = some r → UR r → rightR r = true →
    Calls Try.prog D (#[.pointer (some ⟨g, p * 5, none⟩)] ++ ptrs.toArray) u fun e u' => e = .returned (.int .i64 (S r).2) ∧ u'.ownsRow b 40 5 (.slice (some ⟨g, 0, none⟩) n c) n (flat rv (qs.set p (S r).1)) ∧ Below b u u'

theorem set3_own {u : World} {b g n c p : Nat} {qs : List Rn} {i e : Int} {h l x h' l' x' : Nat} (oo : u.ownsRow b 40 5 (.slice (some ⟨g, 0, none⟩) n c) n (flat rv qs)) (hx : qs[p]? = some (i, e, h, l, x)) :
    (set3 u g (p * 5) h' l' x').ownsRow b 40 5 (.slice (some ⟨g, 0, none⟩) n c) n (flat rv (qs.set p (i, e, h', l', x'))) := by
  have r0 := (oo.stored (p * 5 + 2) (.int .u64 (h' : Int))).1
  have r1 := (r0.stored (p * 5 + 2 + 1) (.int .u64 (l' : Int))).1
  have r2 := (r1.stored (p * 5 + 2 + 2) (.int .u64 (x' : Int))).1
  rw [flat_setT hx] at r2
  exact r2
theorem set3_below {u : World} {b g o a c d : Nat} (h : b ≤ g) : Below b u (set3 u g o a c d) := (((Below.refl b u).setCell (p := ⟨g, o + 2, none⟩) h _).setCell (p := ⟨g, o + 2 + 1, none⟩) h _).setCell (p := ⟨g, o + 2 + 2, none⟩) h _

set_option maxRecDepth 100000 in
theorem run_step (bd d : Nat) (w : World) (hd : w.cell? ⟨bd, 0, none⟩ = some (.int .i64 (d : Int))) (hbd : bd < w.heap.size) (hdt : d ≤ 10000000) : StepOk 61 [.pointer (some ⟨bd, 0, none⟩)] (runS d) w := by
  rintro b g n c p qs ⟨i, e, h, l, x⟩ u hb1 hb2 hB oo hx hu hr
  have hb3 : b ≤ g := (oo.lt g rfl).1
  have hgl := (oo.lt g rfl).2
  have hl : qs.length = n := by
    have h1 := oo.1
    rw [length_flat rv length_rv] at h1
    omega
  have hp : p < n := by have := (List.getElem?_eq_some_iff.1 hx).1; omega
  have hfl := length_flat rv length_rv qs
  have cc : ∀ j, j < 5 → u.cell? ⟨g, p * 5 + j, none⟩ = (rv (i, e, h, l, x))[j]? := fun j hj => (oo.cellAt (p * 5 + j) (by omega)).trans (flat_at rv length_rv hx j hj)
  have hq := rightR_iff.1 hr
  have hq2 : 1 ≤ e ∧ e ≤ 8 := hq.2.1
  have hq3 : 1 ≤ x ∧ x ≤ 65535 := hq.2.2.1
  obtain ⟨en, hen⟩ : ∃ en : Nat, e = (en : Int) := ⟨e.toNat, by omega⟩
  subst hen
  refine (rundo_any g (p * 5) bd en d h l x u hgl (cc 1 (by omega)) (cc 2 (by omega)) (cc 3 (by omega)) (cc 4 (by omega)) (oo.frozenAt _) (oo.frozenAt _) (oo.frozenAt _) ((hB.cell (p := ⟨bd, 0, none⟩) hbd).trans hd) (by omega) (by omega) (by omega) hdt hu.1 hu.2.1 hu.2.2).mono ?_
  rintro r u' ⟨u1, h1, rfl, rfl⟩
  exact ⟨rfl, set3_own (own_below oo h1) hx, (h1.mono hb2).trans (set3_below hb3)⟩
set_option maxRecDepth 100000 in
theorem weigh_step (be bw X : Nat) (each : Int) (w : World) (hd : w.cell? ⟨be, 0, none⟩ = some (.int .i64 each)) (hw : w.cell? ⟨bw, 0, none⟩ = some (.int .u64 (X : Int))) (hbe : be < w.heap.size) (hbw : bw < w.heap.size) (hX : X < 2 ^ 64) : StepOk 66 [.pointer (some ⟨be, 0, none⟩), .pointer (some ⟨bw, 0, none⟩)] (weighS X each) w := by
  rintro b g n c p qs ⟨i, e, h, l, x⟩ u hb1 hb2 hB oo hx hu hr
  have hb3 : b ≤ g := (oo.lt g rfl).1
  have hgl := (oo.lt g rfl).2
  have hl : qs.length = n := by
    have h1 := oo.1
    rw [length_flat rv length_rv] at h1
    omega
  have hp : p < n := by have := (List.getElem?_eq_some_iff.1 hx).1; omega
  have hfl := length_flat rv length_rv qs
  have cc : ∀ j, j < 5 → u.cell? ⟨g, p * 5 + j, none⟩ = (rv (i, e, h, l, x))[j]? := fun j hj => (oo.cellAt (p * 5 + j) (by omega)).trans (flat_at rv length_rv hx j hj)
  have hq := rightR_iff.1 hr
  have hq2 : 1 ≤ e ∧ e ≤ 8 := hq.2.1
  have hq3 : 1 ≤ x ∧ x ≤ 65535 := hq.2.2.1
  obtain ⟨en, hen⟩ : ∃ en : Nat, e = (en : Int) := ⟨e.toNat, by omega⟩
  subst hen
  have hrn : rightN (h * 2 ^ 64 + l) x = true := by
    have q := right_n hr
    unfold rN rW at q
    exact q
  refine (weighdo_any g (p * 5) be bw X en h l x each u hgl (cc 1 (by omega)) (cc 2 (by omega)) (cc 3 (by omega)) (cc 4 (by omega)) (oo.frozenAt _) (oo.frozenAt _) (oo.frozenAt _) (oo.frozenAt _) ((hB.cell (p := ⟨be, 0, none⟩) hbe).trans hd) ((hB.cell (p := ⟨bw, 0, none⟩) hbw).trans hw) (by omega) (by omega) hX hu.1 hu.2.1 hu.2.2 hrn).mono ?_
  rintro r u' ⟨u1, h1, rfl, rfl⟩
  have r0 := (oo.stored (p * 5 + 1) (.int .i64 each)).1
  rw [flat_setE hx] at r0
  have hs : (u.setCell ⟨g, p * 5 + 1, none⟩ (.int .i64 each)).heap.size = u.heap.size := by simp [World.setCell]
  have r1 := own_below r0 (by rw [hs]; exact h1)
  have hx2 : (qs.set p (i, each, h, l, x))[p]? = some (i, each, h, l, x) := List.getElem?_set_self (by omega)
  have r2 := set3_own (h' := (overR (h * 2 ^ 64 + l) x X).1 / 2 ^ 64) (l' := (overR (h * 2 ^ 64 + l) x X).1 % 2 ^ 64) (x' := (overR (h * 2 ^ 64 + l) x X).2.1) r1 hx2
  rw [List.set_set] at r2
  exact ⟨rfl, r2, (((Below.refl b u).setCell (p := ⟨g, p * 5 + 1, none⟩) hb3 _).trans (h1.mono hb2)).trans (set3_below hb3)⟩

set_option maxRecDepth 100000 in
set_option maxHeartbeats 16000000 in
theorem eachRun_any (bi bf : Nat) (q1 : Value) (A2 : Option Addr) (n2 c2 : Nat) (is : List Int) (S : Rn → Rn × Int) (qs : List Rn) (w : World) (hI : IR w A2 n2 is) (hbi : bi < w.heap.size) (hbf : bf < w.heap.size) (ci : w.cell? ⟨bi, 0, none⟩ = some (.slice A2 n2 c2)) (cf : w.cell? ⟨bf, 0, none⟩ = some (.func (.func 61) #[] #[q1]))
    (hS : Good S) (hR : RQ qs) (hU : UQ qs) (hall : ∀ i ∈ is, (kf qs i).isSome = true) (hdo : StepOk 61 [q1] S w) :
    DoOkEach (.pointer (some ⟨bi, 0, none⟩)) (.pointer (some ⟨bf, 0, none⟩)) none qs (match eachF (optS S) qs is with | some m => (m, 0) | none => ([], 131)) (fun _ => True) w := by
  intro b A n c u hb1 hb2 hBu oo
  have hlq : qs.length = n := by
    have h1 := oo.1
    rw [length_flat rv length_rv] at h1
    omega
  have n9 : n2 ≤ 1000 := hI.small
  have m9 : n ≤ 16 := by have := hR.len; omega
  have HI := Lib.hid hI
  have HBu := Lib.hid hBu
  have HL := Lib.hid hI.len
  have ci' := (hBu.cell (p := ⟨bi, 0, none⟩) hbi).trans ci
  replace cf := (hBu.cell (p := ⟨bf, 0, none⟩) hbf).trans cf
  have HD := Lib.hid (fun (g c p : Nat) (cur : List Rn) (r : Rn) (v : World) (hz : b ≤ v.heap.size) (hB : Below b u v) (own : v.ownsRow b 40 5 (.slice (some ⟨g, 0, none⟩) n c) n (flat rv cur)) (hx : cur[p]? = some r) (hu : UR r) (hr : rightR r = true) => hdo b g n c p cur r v hb1 hz (hBu.trans (hB.mono hb1)) own hx hu hr)
  have HSg := Lib.hid hS
  have HC0 : Hid (eachF (optS S) qs is = eachF (optS S) qs (is.drop 0) ∧ RQ qs ∧ UQ qs ∧ qs.length = n ∧ ∀ i ∈ is.drop 0, (kf qs i).isSome = true) := Lib.hid ⟨rfl, hR, hU, hlq, hall⟩
  have HO0 := Lib.hid oo
  obtain ⟨RR, hRR⟩ : ∃ RR : List Rn × Int, (match eachF (optS S) qs is with | some m => (m, 0) | none => ([], 131)) = RR := ⟨_, rfl⟩
  have HRR := Lib.hid hRR
  rw [hRR]
  clear hI hR hU hall hdo hS oo hRR hBu hbi ci hlq
  go_enter Try.func87, Try.ntmps87
  go_wp2_with fail
  clear ci'
  go_loopw [13] (fun i wr => ∃ (k : Nat) (cur : List Rn), k ≤ n2 ∧ i = .int .i64 (k : Int) ∧ Hid (eachF (optS S) qs is = eachF (optS S) cur (is.drop k) ∧ RQ cur ∧ UQ cur ∧ cur.length = n ∧ ∀ i ∈ is.drop k, (kf cur i).isSome = true) ∧ Hid (wr.ownsRow b 40 5 (.slice A n c) n (flat rv cur)) ∧ Below b u wr ∧ b ≤ wr.heap.size) (fun i _ => n2 - (intOf i).toNat)
  case atStart => exact ⟨0, qs, Nat.zero_le _, rfl, HC0, HO0, Below.refl _ _, hb2⟩
  case round =>
    clear HC0 HO0
    obtain ⟨k, cur, hk, rfl, HC, HO, hB, hz⟩ := hrel
    by_cases hlt : k < n2
    · obtain ⟨i, hx⟩ := elem_at (l := is) (k := k) (by rw [HL.out]; exact hlt)
      obtain ⟨ad, rfl, hb, c0⟩ := HI.out.at_ hx
      have c0' := (hB.cell (p := ad.add k) (by rw [block_of_add]; omega)).trans ((HBu.out.cell (p := ad.add k) (by rw [block_of_add]; exact hb)).trans c0)
      have hdr : is.drop k = i :: is.drop (k + 1) := by
        have h := (List.getElem?_eq_some_iff.1 hx)
        rw [List.drop_eq_getElem_cons h.1, h.2]
      obtain ⟨e1, hRc, hUc, hlc, hal⟩ := HC.out
      rw [hdr] at e1 hal
      obtain ⟨r, hkr⟩ : ∃ r, kf cur i = some r := Option.isSome_iff_exists.1 (hal i (by simp))
      have hxr := low_at hRc.rise hkr
      have hr := hRc.get hkr
      have hu := hUc r (kf_some hkr).1
      have hid := kf_id hkr
      rw [eachF_cons hkr] at e1
      have hn0 : 0 < n := by have := (List.getElem?_eq_some_iff.1 hxr).1; omega
      have own := HO.out
      obtain ⟨g, cu, rfl, hbg, _, _, _, _, _⟩ := blk_own own hn0
      have HFi := Lib.hid (find_any (some ⟨g, 0, none⟩) n c cur i wr (Reads.of_own own) hRc.rise (by omega))
      obtain ⟨p, hp⟩ : ∃ p, low cur i = p := ⟨_, rfl⟩
      rw [hp] at HFi hxr
      rw [hkr] at HFi
      have hpn : p < n := by have := (List.getElem?_eq_some_iff.1 hxr).1; omega
      have HDx := Lib.hid (fun (v : World) (hz : b ≤ v.heap.size) (hB : Below b u v) (own : v.ownsRow b 40 5 (.slice (some ⟨g, 0, none⟩) n c) n (flat rv cur)) => HD.out g c p cur r v hz hB own hxr hu hr)
      obtain ⟨s, hs⟩ : ∃ s, (S r).1 = s := ⟨_, rfl⟩
      obtain ⟨E, hE⟩ : ∃ E, (S r).2 = E := ⟨_, rfl⟩
      rw [hs, hE] at HDx
      have hgood := HSg.out r hu hr
      have hopt : optS S r = if E = 0 then some s else none := by unfold optS; rw [hs, hE]
      rw [hs, hE] at hgood
      have hset : cur.set p s = cur.set (low cur i) s := by rw [hp]
      have j0 : (0 : Int) ≤ (k : Int) := by omega
      have j1 : (k : Int) < (n2 : Int) := by omega
      have p0 : (0 : Int) ≤ (p : Int) := by omega
      have p1 : (p : Int) < (n : Int) := by omega
      have HFc := Lib.hid (fun (v : World) (h : Below wr.heap.size wr v) => own_below own h)
      by_cases hE0 : E = 0
      · have h4 := hgood.resolve_right (by omega)
        have hks : kf cur s.1 = some r := by rw [h4.2.2.2, hid]; exact hkr
        have hsk : setK cur s = cur.set p s := by
          unfold setK
          rw [h4.2.2.2, hid, hp]
        have HN : Hid (eachF (optS S) qs is = eachF (optS S) (cur.set p s) (is.drop (k + 1)) ∧ RQ (cur.set p s) ∧ UQ (cur.set p s) ∧ (cur.set p s).length = n ∧ ∀ i ∈ is.drop (k + 1), (kf (cur.set p s) i).isSome = true) := Lib.hid ⟨by
            rw [e1, hopt, if_pos hE0, ← hsk], by rw [← hsk]; exact hRc.set h4.2.1 hks, by
            rw [← hsk]
            intro y hy
            rcases (mem_set hRc.rise hks).1 hy with rfl | hy
            · exact h4.2.2.1
            · exact hUc y hy.1, by rw [List.length_set]; exact hlc, fun j hj => by
            rw [← hsk]
            exact set_is hRc.rise hks (hal j (by simp [hj]))⟩
        have q0 : (E != 0) = false := by rw [hE0]; rfl
        clear hx hdr e1 hRc hUc hlc hal hkr hxr hr hu hid hn0 hp hs hE hgood hopt hset h4 hks hsk hE0 HC HO hbg
        go_wp2_with fail
        refine HFi.out.mono ?_
        rintro e w1 ⟨rfl, h9⟩
        replace own := own_below own h9
        replace hB := hB.trans (h9.mono hz)
        replace hz := Nat.le_trans hz h9.size
        clear h9 c0 c0' HFi HFc
        go_upto_region 5 with fail
        refine wp_region_held_drew (S := fun v => Below b u v) (by kernel_rfl) hB.drew (fun hS => ?_)
        obtain ⟨V, hV⟩ : ∃ V, w1.drew = V := ⟨_, rfl⟩
        replace hB : Below b u w1.drew := hB.drew
        replace own : w1.drew.ownsRow b 40 5 (.slice (some ⟨g, 0, none⟩) n c) n (flat rv cur) := own
        replace hz : b ≤ w1.drew.heap.size := hz
        rw [hV] at hB own hz hS ⊢
        clear hV
        refine wpAnyH_take (i := 0) (v := .func (.func 61) #[] #[q1]) rfl (by kernel_rfl) (by kernel_rfl) (by kernel_rfl) (fun _ _ _ h => h) (Or.inl ⟨by kernel_rfl, fun u hSw => (by have q0 := (hSw.cell (p := ⟨bf, 0, none⟩) (Nat.lt_of_lt_of_le hbf hb1)).trans cf; go_simp)⟩) hS ?_
        change wpAnyH _ _ _ _ _ _ _ (Act.put _ (some 23) _) _
        simp only [Act.put]
        refine wpAnyH_take (i := 1) (v := .slice (some ⟨g, 0, none⟩) n c) rfl (by kernel_rfl) (by kernel_rfl) (by kernel_rfl) (fun _ _ _ h => h) (Or.inl ⟨by kernel_rfl, fun u hSw => (by go_simp)⟩) hS ?_
        change wpAnyH _ _ _ _ _ _ _ (Act.put _ (some 24) _) _
        simp only [Act.put]
        refine wpAnyH_take (i := 2) (v := .int .i64 (p : Int)) rfl (by kernel_rfl) (by kernel_rfl) (by kernel_rfl) (fun _ _ _ h => h) (Or.inl ⟨by kernel_rfl, fun u hSw => (by go_simp)⟩) hS ?_
        change wpAnyH _ _ _ _ _ _ _ (Act.put _ (some 25) _) _
        simp only [Act.put]
        refine wpAnyH_take (i := 3) (v := .pointer (some ⟨g, p * 5, none⟩)) rfl (by kernel_rfl) (by kernel_rfl) (by kernel_rfl) (fun _ _ _ h => h) (Or.inl ⟨by kernel_rfl, fun u hSw => (by go_simp)⟩) hS ?_
        change wpAnyH _ _ _ _ _ _ _ (Act.put _ (some 26) _) _
        simp only [Act.put]
        refine wpAnyH_ready (rs := [4]) (by kernel_rfl) (by simp) ?_
        refine AllReadyH.cons rfl (fun K hK => ?_) AllReadyH.nil
        go_simp
        refine (HDx.out _ hz hB own).mono ?_
        rintro e1 w1 ⟨rfl, own2, h9⟩
        have GB := hB.trans h9
        have hz2 := Nat.le_trans hz h9.size
        clear own
        refine hK.out _ _ GB (fun hS => ?_)
        clear hK K
        refine wpAnyH_take (i := 5) (v := .int .i64 E) rfl (by kernel_rfl) (by kernel_rfl) (by kernel_rfl) (fun _ _ _ h => h) (Or.inl ⟨by kernel_rfl, fun u hSw => (by go_simp)⟩) hS ?_
        change wpAnyH _ _ _ _ _ _ _ (Act.put _ (some 10) _) _
        simp only [Act.put]
        refine wpAnyH_done (by kernel_rfl) ?_ _
        clear hS
        go_simp
        have HO2 := Lib.hid own2
        clear own2
        go_wp2
        go_roundw
        case rel => exact ⟨k + 1, _, by omega, by go_num, HN, HO2, GB, hz2⟩
        case measure => simp [intOf] <;> omega
      · have q0 : (E != 0) = true := by simpa using hE0
        have hE1 : E = 131 := hgood.resolve_left (fun h => hE0 h.1)
        have HRn : Hid (RR = ([], E)) := Lib.hid (by
          rw [← HRR.out, e1, hopt, if_neg hE0, hE1])
        have HE := Lib.hid (show E = 0 → False from hE0)
        clear hE1
        clear hx hdr e1 hRc hUc hlc hal hkr hxr hr hu hid hn0 hp hs hgood hopt hset hE0 HC HO hbg hE
        go_wp2_with fail
        refine HFi.out.mono ?_
        rintro e w1 ⟨rfl, h9⟩
        replace own := own_below own h9
        replace hB := hB.trans (h9.mono hz)
        replace hz := Nat.le_trans hz h9.size
        clear h9 c0 c0' HFi HFc
        go_upto_region 5 with fail
        refine wp_region_held_drew (S := fun v => Below b u v) (by kernel_rfl) hB.drew (fun hS => ?_)
        obtain ⟨V, hV⟩ : ∃ V, w1.drew = V := ⟨_, rfl⟩
        replace hB : Below b u w1.drew := hB.drew
        replace own : w1.drew.ownsRow b 40 5 (.slice (some ⟨g, 0, none⟩) n c) n (flat rv cur) := own
        replace hz : b ≤ w1.drew.heap.size := hz
        rw [hV] at hB own hz hS ⊢
        clear hV
        refine wpAnyH_take (i := 0) (v := .func (.func 61) #[] #[q1]) rfl (by kernel_rfl) (by kernel_rfl) (by kernel_rfl) (fun _ _ _ h => h) (Or.inl ⟨by kernel_rfl, fun u hSw => (by have q0 := (hSw.cell (p := ⟨bf, 0, none⟩) (Nat.lt_of_lt_of_le hbf hb1)).trans cf; go_simp)⟩) hS ?_
        change wpAnyH _ _ _ _ _ _ _ (Act.put _ (some 23) _) _
        simp only [Act.put]
        refine wpAnyH_take (i := 1) (v := .slice (some ⟨g, 0, none⟩) n c) rfl (by kernel_rfl) (by kernel_rfl) (by kernel_rfl) (fun _ _ _ h => h) (Or.inl ⟨by kernel_rfl, fun u hSw => (by go_simp)⟩) hS ?_
        change wpAnyH _ _ _ _ _ _ _ (Act.put _ (some 24) _) _
        simp only [Act.put]
        refine wpAnyH_take (i := 2) (v := .int .i64 (p : Int)) rfl (by kernel_rfl) (by kernel_rfl) (by kernel_rfl) (fun _ _ _ h => h) (Or.inl ⟨by kernel_rfl, fun u hSw => (by go_simp)⟩) hS ?_
        change wpAnyH _ _ _ _ _ _ _ (Act.put _ (some 25) _) _
        simp only [Act.put]
        refine wpAnyH_take (i := 3) (v := .pointer (some ⟨g, p * 5, none⟩)) rfl (by kernel_rfl) (by kernel_rfl) (by kernel_rfl) (fun _ _ _ h => h) (Or.inl ⟨by kernel_rfl, fun u hSw => (by go_simp)⟩) hS ?_
        change wpAnyH _ _ _ _ _ _ _ (Act.put _ (some 26) _) _
        simp only [Act.put]
        refine wpAnyH_ready (rs := [4]) (by kernel_rfl) (by simp) ?_
        refine AllReadyH.cons rfl (fun K hK => ?_) AllReadyH.nil
        go_simp
        refine (HDx.out _ hz hB own).mono ?_
        rintro e1 w1 ⟨rfl, own2, h9⟩
        have GB := hB.trans h9
        have hz2 := Nat.le_trans hz h9.size
        clear own
        refine hK.out _ _ GB (fun hS => ?_)
        clear hK K
        refine wpAnyH_take (i := 5) (v := .int .i64 E) rfl (by kernel_rfl) (by kernel_rfl) (by kernel_rfl) (fun _ _ _ h => h) (Or.inl ⟨by kernel_rfl, fun u hSw => (by go_simp)⟩) hS ?_
        change wpAnyH _ _ _ _ _ _ _ (Act.put _ (some 10) _) _
        simp only [Act.put]
        refine wpAnyH_done (by kernel_rfl) ?_ _
        clear hS
        go_simp
        clear own2 hz2
        go_wp2
        go_ret2
        rw [HRn.out]
        exact ⟨⟨_, _, _, rfl, fun h => (HE.out h).elim⟩, below_but GB _, trivial⟩
    · obtain rfl : k = n2 := by omega
      have HRn : Hid (RR = (cur, 0)) := Lib.hid (by
        rw [← HRR.out, HC.out.1, ← HL.out, List.drop_length]
        rfl)
      go_wp2
      go_ret2
      rw [HRn.out]
      exact ⟨⟨_, _, _, rfl, fun _ => ⟨HC.out.2.2.2.1, HO.out⟩⟩, below_but hB _, trivial⟩

set_option maxRecDepth 100000 in
set_option maxHeartbeats 16000000 in
theorem eachWeigh_any (bi bf : Nat) (q1 q2 : Value) (A2 : Option Addr) (n2 c2 : Nat) (is : List Int) (S : Rn → Rn × Int) (qs : List Rn) (w : World) (hI : IR w A2 n2 is) (hbi : bi < w.heap.size) (hbf : bf < w.heap.size) (ci : w.cell? ⟨bi, 0, none⟩ = some (.slice A2 n2 c2)) (cf : w.cell? ⟨bf, 0, none⟩ = some (.func (.func 66) #[] #[q1, q2]))
    (hS : Good S) (hR : RQ qs) (hU : UQ qs) (hall : ∀ i ∈ is, (kf qs i).isSome = true) (hdo : StepOk 66 [q1, q2] S w) :
    DoOkEach (.pointer (some ⟨bi, 0, none⟩)) (.pointer (some ⟨bf, 0, none⟩)) none qs (match eachF (optS S) qs is with | some m => (m, 0) | none => ([], 131)) (fun _ => True) w := by
  intro b A n c u hb1 hb2 hBu oo
  have hlq : qs.length = n := by
    have h1 := oo.1
    rw [length_flat rv length_rv] at h1
    omega
  have n9 : n2 ≤ 1000 := hI.small
  have m9 : n ≤ 16 := by have := hR.len; omega
  have HI := Lib.hid hI
  have HBu := Lib.hid hBu
  have HL := Lib.hid hI.len
  have ci' := (hBu.cell (p := ⟨bi, 0, none⟩) hbi).trans ci
  replace cf := (hBu.cell (p := ⟨bf, 0, none⟩) hbf).trans cf
  have HD := Lib.hid (fun (g c p : Nat) (cur : List Rn) (r : Rn) (v : World) (hz : b ≤ v.heap.size) (hB : Below b u v) (own : v.ownsRow b 40 5 (.slice (some ⟨g, 0, none⟩) n c) n (flat rv cur)) (hx : cur[p]? = some r) (hu : UR r) (hr : rightR r = true) => hdo b g n c p cur r v hb1 hz (hBu.trans (hB.mono hb1)) own hx hu hr)
  have HSg := Lib.hid hS
  have HC0 : Hid (eachF (optS S) qs is = eachF (optS S) qs (is.drop 0) ∧ RQ qs ∧ UQ qs ∧ qs.length = n ∧ ∀ i ∈ is.drop 0, (kf qs i).isSome = true) := Lib.hid ⟨rfl, hR, hU, hlq, hall⟩
  have HO0 := Lib.hid oo
  obtain ⟨RR, hRR⟩ : ∃ RR : List Rn × Int, (match eachF (optS S) qs is with | some m => (m, 0) | none => ([], 131)) = RR := ⟨_, rfl⟩
  have HRR := Lib.hid hRR
  rw [hRR]
  clear hI hR hU hall hdo hS oo hRR hBu hbi ci hlq
  go_enter Try.func87, Try.ntmps87
  go_wp2_with fail
  clear ci'
  go_loopw [13] (fun i wr => ∃ (k : Nat) (cur : List Rn), k ≤ n2 ∧ i = .int .i64 (k : Int) ∧ Hid (eachF (optS S) qs is = eachF (optS S) cur (is.drop k) ∧ RQ cur ∧ UQ cur ∧ cur.length = n ∧ ∀ i ∈ is.drop k, (kf cur i).isSome = true) ∧ Hid (wr.ownsRow b 40 5 (.slice A n c) n (flat rv cur)) ∧ Below b u wr ∧ b ≤ wr.heap.size) (fun i _ => n2 - (intOf i).toNat)
  case atStart => exact ⟨0, qs, Nat.zero_le _, rfl, HC0, HO0, Below.refl _ _, hb2⟩
  case round =>
    clear HC0 HO0
    obtain ⟨k, cur, hk, rfl, HC, HO, hB, hz⟩ := hrel
    by_cases hlt : k < n2
    · obtain ⟨i, hx⟩ := elem_at (l := is) (k := k) (by rw [HL.out]; exact hlt)
      obtain ⟨ad, rfl, hb, c0⟩ := HI.out.at_ hx
      have c0' := (hB.cell (p := ad.add k) (by rw [block_of_add]; omega)).trans ((HBu.out.cell (p := ad.add k) (by rw [block_of_add]; exact hb)).trans c0)
      have hdr : is.drop k = i :: is.drop (k + 1) := by
        have h := (List.getElem?_eq_some_iff.1 hx)
        rw [List.drop_eq_getElem_cons h.1, h.2]
      obtain ⟨e1, hRc, hUc, hlc, hal⟩ := HC.out
      rw [hdr] at e1 hal
      obtain ⟨r, hkr⟩ : ∃ r, kf cur i = some r := Option.isSome_iff_exists.1 (hal i (by simp))
      have hxr := low_at hRc.rise hkr
      have hr := hRc.get hkr
      have hu := hUc r (kf_some hkr).1
      have hid := kf_id hkr
      rw [eachF_cons hkr] at e1
      have hn0 : 0 < n := by have := (List.getElem?_eq_some_iff.1 hxr).1; omega
      have own := HO.out
      obtain ⟨g, cu, rfl, hbg, _, _, _, _, _⟩ := blk_own own hn0
      have HFi := Lib.hid (find_any (some ⟨g, 0, none⟩) n c cur i wr (Reads.of_own own) hRc.rise (by omega))
      obtain ⟨p, hp⟩ : ∃ p, low cur i = p := ⟨_, rfl⟩
      rw [hp] at HFi hxr
      rw [hkr] at HFi
      have hpn : p < n := by have := (List.getElem?_eq_some_iff.1 hxr).1; omega
      have HDx := Lib.hid (fun (v : World) (hz : b ≤ v.heap.size) (hB : Below b u v) (own : v.ownsRow b 40 5 (.slice (some ⟨g, 0, none⟩) n c) n (flat rv cur)) => HD.out g c p cur r v hz hB own hxr hu hr)
      obtain ⟨s, hs⟩ : ∃ s, (S r).1 = s := ⟨_, rfl⟩
      obtain ⟨E, hE⟩ : ∃ E, (S r).2 = E := ⟨_, rfl⟩
      rw [hs, hE] at HDx
      have hgood := HSg.out r hu hr
      have hopt : optS S r = if E = 0 then some s else none := by unfold optS; rw [hs, hE]
      rw [hs, hE] at hgood
      have hset : cur.set p s = cur.set (low cur i) s := by rw [hp]
      have j0 : (0 : Int) ≤ (k : Int) := by omega
      have j1 : (k : Int) < (n2 : Int) := by omega
      have p0 : (0 : Int) ≤ (p : Int) := by omega
      have p1 : (p : Int) < (n : Int) := by omega
      have HFc := Lib.hid (fun (v : World) (h : Below wr.heap.size wr v) => own_below own h)
      by_cases hE0 : E = 0
      · have h4 := hgood.resolve_right (by omega)
        have hks : kf cur s.1 = some r := by rw [h4.2.2.2, hid]; exact hkr
        have hsk : setK cur s = cur.set p s := by
          unfold setK
          rw [h4.2.2.2, hid, hp]
        have HN : Hid (eachF (optS S) qs is = eachF (optS S) (cur.set p s) (is.drop (k + 1)) ∧ RQ (cur.set p s) ∧ UQ (cur.set p s) ∧ (cur.set p s).length = n ∧ ∀ i ∈ is.drop (k + 1), (kf (cur.set p s) i).isSome = true) := Lib.hid ⟨by
            rw [e1, hopt, if_pos hE0, ← hsk], by rw [← hsk]; exact hRc.set h4.2.1 hks, by
            rw [← hsk]
            intro y hy
            rcases (mem_set hRc.rise hks).1 hy with rfl | hy
            · exact h4.2.2.1
            · exact hUc y hy.1, by rw [List.length_set]; exact hlc, fun j hj => by
            rw [← hsk]
            exact set_is hRc.rise hks (hal j (by simp [hj]))⟩
        have q0 : (E != 0) = false := by rw [hE0]; rfl
        clear hx hdr e1 hRc hUc hlc hal hkr hxr hr hu hid hn0 hp hs hE hgood hopt hset h4 hks hsk hE0 HC HO hbg
        go_wp2_with fail
        refine HFi.out.mono ?_
        rintro e w1 ⟨rfl, h9⟩
        replace own := own_below own h9
        replace hB := hB.trans (h9.mono hz)
        replace hz := Nat.le_trans hz h9.size
        clear h9 c0 c0' HFi HFc
        go_upto_region 5 with fail
        refine wp_region_held_drew (S := fun v => Below b u v) (by kernel_rfl) hB.drew (fun hS => ?_)
        obtain ⟨V, hV⟩ : ∃ V, w1.drew = V := ⟨_, rfl⟩
        replace hB : Below b u w1.drew := hB.drew
        replace own : w1.drew.ownsRow b 40 5 (.slice (some ⟨g, 0, none⟩) n c) n (flat rv cur) := own
        replace hz : b ≤ w1.drew.heap.size := hz
        rw [hV] at hB own hz hS ⊢
        clear hV
        refine wpAnyH_take (i := 0) (v := .func (.func 66) #[] #[q1, q2]) rfl (by kernel_rfl) (by kernel_rfl) (by kernel_rfl) (fun _ _ _ h => h) (Or.inl ⟨by kernel_rfl, fun u hSw => (by have q0 := (hSw.cell (p := ⟨bf, 0, none⟩) (Nat.lt_of_lt_of_le hbf hb1)).trans cf; go_simp)⟩) hS ?_
        change wpAnyH _ _ _ _ _ _ _ (Act.put _ (some 23) _) _
        simp only [Act.put]
        refine wpAnyH_take (i := 1) (v := .slice (some ⟨g, 0, none⟩) n c) rfl (by kernel_rfl) (by kernel_rfl) (by kernel_rfl) (fun _ _ _ h => h) (Or.inl ⟨by kernel_rfl, fun u hSw => (by go_simp)⟩) hS ?_
        change wpAnyH _ _ _ _ _ _ _ (Act.put _ (some 24) _) _
        simp only [Act.put]
        refine wpAnyH_take (i := 2) (v := .int .i64 (p : Int)) rfl (by kernel_rfl) (by kernel_rfl) (by kernel_rfl) (fun _ _ _ h => h) (Or.inl ⟨by kernel_rfl, fun u hSw => (by go_simp)⟩) hS ?_
        change wpAnyH _ _ _ _ _ _ _ (Act.put _ (some 25) _) _
        simp only [Act.put]
        refine wpAnyH_take (i := 3) (v := .pointer (some ⟨g, p * 5, none⟩)) rfl (by kernel_rfl) (by kernel_rfl) (by kernel_rfl) (fun _ _ _ h => h) (Or.inl ⟨by kernel_rfl, fun u hSw => (by go_simp)⟩) hS ?_
        change wpAnyH _ _ _ _ _ _ _ (Act.put _ (some 26) _) _
        simp only [Act.put]
        refine wpAnyH_ready (rs := [4]) (by kernel_rfl) (by simp) ?_
        refine AllReadyH.cons rfl (fun K hK => ?_) AllReadyH.nil
        go_simp
        refine (HDx.out _ hz hB own).mono ?_
        rintro e1 w1 ⟨rfl, own2, h9⟩
        have GB := hB.trans h9
        have hz2 := Nat.le_trans hz h9.size
        clear own
        refine hK.out _ _ GB (fun hS => ?_)
        clear hK K
        refine wpAnyH_take (i := 5) (v := .int .i64 E) rfl (by kernel_rfl) (by kernel_rfl) (by kernel_rfl) (fun _ _ _ h => h) (Or.inl ⟨by kernel_rfl, fun u hSw => (by go_simp)⟩) hS ?_
        change wpAnyH _ _ _ _ _ _ _ (Act.put _ (some 10) _) _
        simp only [Act.put]
        refine wpAnyH_done (by kernel_rfl) ?_ _
        clear hS
        go_simp
        have HO2 := Lib.hid own2
        clear own2
        go_wp2
        go_roundw
        case rel => exact ⟨k + 1, _, by omega, by go_num, HN, HO2, GB, hz2⟩
        case measure => simp [intOf] <;> omega
      · have q0 : (E != 0) = true := by simpa using hE0
        have hE1 : E = 131 := hgood.resolve_left (fun h => hE0 h.1)
        have HRn : Hid (RR = ([], E)) := Lib.hid (by
          rw [← HRR.out, e1, hopt, if_neg hE0, hE1])
        have HE := Lib.hid (show E = 0 → False from hE0)
        clear hE1
        clear hx hdr e1 hRc hUc hlc hal hkr hxr hr hu hid hn0 hp hs hgood hopt hset hE0 HC HO hbg hE
        go_wp2_with fail
        refine HFi.out.mono ?_
        rintro e w1 ⟨rfl, h9⟩
        replace own := own_below own h9
        replace hB := hB.trans (h9.mono hz)
        replace hz := Nat.le_trans hz h9.size
        clear h9 c0 c0' HFi HFc
        go_upto_region 5 with fail
        refine wp_region_held_drew (S := fun v => Below b u v) (by kernel_rfl) hB.drew (fun hS => ?_)
        obtain ⟨V, hV⟩ : ∃ V, w1.drew = V := ⟨_, rfl⟩
        replace hB : Below b u w1.drew := hB.drew
        replace own : w1.drew.ownsRow b 40 5 (.slice (some ⟨g, 0, none⟩) n c) n (flat rv cur) := own
        replace hz : b ≤ w1.drew.heap.size := hz
        rw [hV] at hB own hz hS ⊢
        clear hV
        refine wpAnyH_take (i := 0) (v := .func (.func 66) #[] #[q1, q2]) rfl (by kernel_rfl) (by kernel_rfl) (by kernel_rfl) (fun _ _ _ h => h) (Or.inl ⟨by kernel_rfl, fun u hSw => (by have q0 := (hSw.cell (p := ⟨bf, 0, none⟩) (Nat.lt_of_lt_of_le hbf hb1)).trans cf; go_simp)⟩) hS ?_
        change wpAnyH _ _ _ _ _ _ _ (Act.put _ (some 23) _) _
        simp only [Act.put]
        refine wpAnyH_take (i := 1) (v := .slice (some ⟨g, 0, none⟩) n c) rfl (by kernel_rfl) (by kernel_rfl) (by kernel_rfl) (fun _ _ _ h => h) (Or.inl ⟨by kernel_rfl, fun u hSw => (by go_simp)⟩) hS ?_
        change wpAnyH _ _ _ _ _ _ _ (Act.put _ (some 24) _) _
        simp only [Act.put]
        refine wpAnyH_take (i := 2) (v := .int .i64 (p : Int)) rfl (by kernel_rfl) (by kernel_rfl) (by kernel_rfl) (fun _ _ _ h => h) (Or.inl ⟨by kernel_rfl, fun u hSw => (by go_simp)⟩) hS ?_
        change wpAnyH _ _ _ _ _ _ _ (Act.put _ (some 25) _) _
        simp only [Act.put]
        refine wpAnyH_take (i := 3) (v := .pointer (some ⟨g, p * 5, none⟩)) rfl (by kernel_rfl) (by kernel_rfl) (by kernel_rfl) (fun _ _ _ h => h) (Or.inl ⟨by kernel_rfl, fun u hSw => (by go_simp)⟩) hS ?_
        change wpAnyH _ _ _ _ _ _ _ (Act.put _ (some 26) _) _
        simp only [Act.put]
        refine wpAnyH_ready (rs := [4]) (by kernel_rfl) (by simp) ?_
        refine AllReadyH.cons rfl (fun K hK => ?_) AllReadyH.nil
        go_simp
        refine (HDx.out _ hz hB own).mono ?_
        rintro e1 w1 ⟨rfl, own2, h9⟩
        have GB := hB.trans h9
        have hz2 := Nat.le_trans hz h9.size
        clear own
        refine hK.out _ _ GB (fun hS => ?_)
        clear hK K
        refine wpAnyH_take (i := 5) (v := .int .i64 E) rfl (by kernel_rfl) (by kernel_rfl) (by kernel_rfl) (fun _ _ _ h => h) (Or.inl ⟨by kernel_rfl, fun u hSw => (by go_simp)⟩) hS ?_
        change wpAnyH _ _ _ _ _ _ _ (Act.put _ (some 10) _) _
        simp only [Act.put]
        refine wpAnyH_done (by kernel_rfl) ?_ _
        clear hS
        go_simp
        clear own2 hz2
        go_wp2
        go_ret2
        rw [HRn.out]
        exact ⟨⟨_, _, _, rfl, fun h => (HE.out h).elim⟩, below_but GB _, trivial⟩
    · obtain rfl : k = n2 := by omega
      have HRn : Hid (RR = (cur, 0)) := Lib.hid (by
        rw [← HRR.out, HC.out.1, ← HL.out, List.drop_length]
        rfl)
      go_wp2
      go_ret2
      rw [HRn.out]
      exact ⟨⟨_, _, _, rfl, fun _ => ⟨HC.out.2.2.2.1, HO.out⟩⟩, below_but hB _, trivial⟩

end Go.Proofs.Ytfgabmelmopgdaa
