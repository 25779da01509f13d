/-
  The landed vtime: the closures that take a runner out, let one run, weigh one. No statement is proved here.
-/
import Derived.Test.YtfgabmelmopgdaaVe
namespace Go.Proofs.Ytfgabmelmopgdaa
open Go.RowKit

theorem add_call (h l x n : Nat) (u : World) (hh : h < 2 ^ 64) (hl : l < 2 ^ 64) (hx : x < 2 ^ 64) (hn : n < 2 ^ 64) : Calls Try.prog 29 #[.agg #[.int .u64 (h : Int), .int .u64 (l : Int), .int .u64 (x : Int)], .int .u64 (n : Int)] u (Said (fe (addR (h * 2 ^ 64 + l) x n)) u) := by
  have q := add_ok (h * 2 ^ 64 + l) x n u (by omega) hx hn
  rw [fq_of hl] at q
  exact q
theorem less_call (h l x n : Nat) (u : World) (hh : h < 2 ^ 64) (hl : l < 2 ^ 64) (hx : x < 2 ^ 64) (hn : n < 2 ^ 64) : Calls Try.prog 31 #[.agg #[.int .u64 (h : Int), .int .u64 (l : Int), .int .u64 (x : Int)], .int .u64 (n : Int)] u (Said (fe (lessR (h * 2 ^ 64 + l) x n)) u) := by
  have q := less_ok (h * 2 ^ 64 + l) x n u (by omega) hx hn
  rw [fq_of hl] at q
  exact q
theorem fe_cells (r : Nat × Nat × Int) : fe r = .tuple #[.agg #[.int .u64 ((r.1 / 2 ^ 64 : Nat) : Int), .int .u64 ((r.1 % 2 ^ 64 : Nat) : Int), .int .u64 (r.2.1 : Int)], .int .i64 r.2.2] := rfl
theorem But.frozen {gm : Option Nat} {B : Nat} {w w' : World} (h : But gm B w w') {p : Addr} (hp : p.block < B) (hn : some p.block ≠ gm) : w'.frozen? p = w.frozen? p := World.frozen?_of_block (w := w) (h.block p.block hp hn)
theorem But.cell {gm : Option Nat} {B : Nat} {w w' : World} (h : But gm B w w') {p : Addr} (hp : p.block < B) (hn : some p.block ≠ gm) : w'.cell? p = w.cell? p := World.cell?_of_block (w := w) (h.block p.block hp hn)
theorem below_frozen {B : Nat} {w w' : World} (h : Below B w w') {p : Addr} (hp : p.block < B) : w'.frozen? p = w.frozen? p := World.frozen?_of_block (w := w) (h.block p.block hp)

set_option maxRecDepth 100000 in
set_option maxHeartbeats 2000000 in
theorem leavedo_any (bp : Nat) (qs : List Rn) (i : Int) (w : World) (hR : Rise qs) (hk : (kf qs i).isSome = true) (hbp : bp < w.heap.size) (hc : w.cell? ⟨bp, 0, none⟩ = some (.int .i64 ((low qs i : Nat) : Int))) (h9 : qs.length ≤ 1000) :
    DoOkLeave (.pointer (some ⟨bp, 0, none⟩)) none qs (delK qs i, 0) (fun _ => True) w := by
  intro b A n c u hb1 hb2 hB oo
  have hl : qs.length = n := by
    have h1 := oo.1
    rw [length_flat rv length_rv] at h1
    omega
  obtain ⟨r, hr⟩ : ∃ r, kf qs i = some r := Option.isSome_iff_exists.1 hk
  have hx := low_at hR hr
  have hp : low qs i < n := by have := (List.getElem?_eq_some_iff.1 hx).1; omega
  have c0 := (hB.cell (p := ⟨bp, 0, none⟩) hbp).trans hc
  have HD := Lib.hid (rdelete_any b n c (low qs i) A qs u oo hl hp (by omega))
  have HO := Lib.hid oo
  have HL := Lib.hid (And.intro hl hp)
  have n9 : n ≤ 1000 := by omega
  obtain ⟨p, hpp⟩ : ∃ p, low qs i = p := ⟨_, rfl⟩
  have HV : Hid (delK qs i = qs.eraseIdx p) := Lib.hid (by unfold delK; rw [hpp])
  rw [hpp] at HD c0 HL hp
  have HB := Lib.hid hb2
  clear hR hk hr hx hc oo hl hB hbp hpp h9
  go_enter Try.func52, Try.ntmps52
  go_wp2_with fail
  refine HD.out.mono ?_
  rintro e w1 ht
  obtain ⟨A1, c1, rfl, ho, _⟩ := ht.out
  have hg := ht.grown
  clear ht
  have HE := Lib.hid (And.intro ho hg)
  clear ho hg
  go_wp2
  go_ret2
  refine ⟨⟨_, _, _, rfl, fun _ => ⟨?_, ?_⟩⟩, ⟨HE.out.2.os, HE.out.2.tape, HE.out.2.output, HE.out.2.size, fun k hk _ => HE.out.2.block k (Nat.lt_of_lt_of_le hk HB.out) (fun e => by have := (HO.out.lt k e.symm).1; omega)⟩, trivial⟩
  · show (delK qs i).length = n - 1
    rw [HV.out, List.length_eraseIdx_of_lt (by rw [HL.out.1]; exact HL.out.2), HL.out.1]
  · show w1.ownsRow b _ 5 _ _ (flat rv (delK qs i))
    rw [HV.out]
    exact HE.out.1

theorem cell_off {w : World} {g i j : Nat} (h : i ≠ j) (v : Value) : (w.setCell ⟨g, i, none⟩ v).cell? ⟨g, j, none⟩ = w.cell? ⟨g, j, none⟩ := World.cell?_setCell_other w _ _ v (fun e => by injection e with _ e; exact h e)
/-- three cells written, from o on -/
def set3 (w : World) (g o : Nat) (a b c : Nat) : World := ((w.setCell ⟨g, o + 2, none⟩ (.int .u64 (a : Int))).setCell ⟨g, o + 2 + 1, none⟩ (.int .u64 (b : Int))).setCell ⟨g, o + 2 + 2, none⟩ (.int .u64 (c : Int))
theorem set3_but {w w1 : World} {g o a b c B : Nat} (h : Below B w w1) : But (some g) B w (set3 w1 g o a b c) :=
  (((below_but h (some g)).setCell (p := ⟨g, o + 2, none⟩) (.inl rfl) _).setCell (p := ⟨g, o + 2 + 1, none⟩) (.inl rfl) _).setCell (p := ⟨g, o + 2 + 2, none⟩) (.inl rfl) _
theorem set3_cell {w1 : World} {g o a b c j : Nat} (h : j < o + 2) : (set3 w1 g o a b c).cell? ⟨g, j, none⟩ = w1.cell? ⟨g, j, none⟩ := by
  unfold set3
  rw [cell_off (by omega), cell_off (by omega), cell_off (by omega)]

set_option maxRecDepth 100000 in
set_option maxHeartbeats 8000000 in
theorem rundo_any (g o bd e d h l x : Nat) (w : World) (hg : g < w.heap.size) (c1 : w.cell? ⟨g, o + 1, none⟩ = some (.int .i64 (e : Int))) (c2 : w.cell? ⟨g, o + 2, none⟩ = some (.int .u64 (h : Int))) (c3 : w.cell? ⟨g, o + 2 + 1, none⟩ = some (.int .u64 (l : Int))) (c4 : w.cell? ⟨g, o + 2 + 2, none⟩ = some (.int .u64 (x : Int)))
    (z2 : w.frozen? ⟨g, o + 2, none⟩ = false) (z3 : w.frozen? ⟨g, o + 2 + 1, none⟩ = false) (z4 : w.frozen? ⟨g, o + 2 + 2, none⟩ = false)
    (hd : w.cell? ⟨bd, 0, none⟩ = some (.int .i64 (d : Int))) (hbd : bd < w.heap.size) (hne : bd ≠ g) (he : e ≤ 8) (hdt : d ≤ 10000000) (hh : h < 2 ^ 64) (hl : l < 2 ^ 64) (hx : x < 2 ^ 64) :
    Calls Try.prog 61 #[.pointer (some ⟨g, o, none⟩), .pointer (some ⟨bd, 0, none⟩)] w fun r w' => ∃ w1, Below w.heap.size w w1 ∧ r = .returned (.int .i64 (addR (h * 2 ^ 64 + l) x (e * d)).2.2) ∧
      w' = set3 w1 g o ((addR (h * 2 ^ 64 + l) x (e * d)).1 / 2 ^ 64) ((addR (h * 2 ^ 64 + l) x (e * d)).1 % 2 ^ 64) (addR (h * 2 ^ 64 + l) x (e * d)).2.1 := by
  have hk : e * d ≤ 8 * 10000000 := Nat.mul_le_mul he hdt
  have HAd := Lib.hid (fun (u : World) => add_call h l x (e * d) u hh hl hx (by omega))
  obtain ⟨ph, hph⟩ : ∃ p, (addR (h * 2 ^ 64 + l) x (e * d)).1 / 2 ^ 64 = p := ⟨_, rfl⟩
  obtain ⟨pl, hpl⟩ : ∃ p, (addR (h * 2 ^ 64 + l) x (e * d)).1 % 2 ^ 64 = p := ⟨_, rfl⟩
  obtain ⟨px, hpx⟩ : ∃ p, (addR (h * 2 ^ 64 + l) x (e * d)).2.1 = p := ⟨_, rfl⟩
  obtain ⟨pe, hpe⟩ : ∃ p, (addR (h * 2 ^ 64 + l) x (e * d)).2.2 = p := ⟨_, rfl⟩
  simp only [fe_cells] at HAd
  rw [hph, hpl, hpx, hpe] at HAd ⊢
  obtain ⟨k, hkk⟩ : ∃ k, e * d = k := ⟨_, rfl⟩
  rw [hkk] at HAd hk
  have HCe : Hid (IntKind.u64.wrap (e : Int) = (e : Int)) := Lib.hid (by rw [IntKind.wrap_u64]; omega)
  have HCd : Hid (IntKind.u64.wrap (d : Int) = (d : Int)) := Lib.hid (by rw [IntKind.wrap_u64]; omega)
  have HCk : Hid (IntKind.u64.wrap ((e : Int) * (d : Int)) = (k : Int)) := Lib.hid (by rw [IntKind.wrap_u64, ← hkk, ← Int.natCast_mul]; omega)
  have HSf : Hid (∀ u, Below w.heap.size w u → (But (some g) w.heap.size w u ∧ u.cell? ⟨g, o + 1, none⟩ = some (.int .i64 (e : Int)) ∧ u.cell? ⟨bd, 0, none⟩ = some (.int .i64 (d : Int)))) := Lib.hid (fun u hu => ⟨below_but hu _, (hu.cell (p := ⟨g, o + 1, none⟩) hg).trans c1, (hu.cell (p := ⟨bd, 0, none⟩) hbd).trans hd⟩)
  have HSt : Hid (∀ u, Below w.heap.size w u → (But (some g) w.heap.size w (set3 u g o ph pl px) ∧ (set3 u g o ph pl px).cell? ⟨g, o + 1, none⟩ = some (.int .i64 (e : Int)) ∧ (set3 u g o ph pl px).cell? ⟨bd, 0, none⟩ = some (.int .i64 (d : Int)))) := Lib.hid (fun u hu => ⟨set3_but hu, (set3_cell (by omega)).trans ((hu.cell (p := ⟨g, o + 1, none⟩) hg).trans c1), ((set3_but hu).cell (p := ⟨bd, 0, none⟩) hbd (by simpa using hne)).trans hd⟩)
  have GB := (Below.refl w.heap.size w).drew
  unfold set3 at HSt ⊢
  clear hph hpl hpx hpe hkk hk hbd hne he hdt hh hl hx hd
  go_enter Try.func61, Try.ntmps61
  go_upto_region 1 with fail
  refine wp_region_held_drew (S := fun u => But (some g) w.heap.size w u ∧ u.cell? ⟨g, o + 1, none⟩ = some (.int .i64 (e : Int)) ∧ u.cell? ⟨bd, 0, none⟩ = some (.int .i64 (d : Int))) (by kernel_rfl) (HSf.out _ GB) (fun hS => ?_)
  generalize w.drew = V at GB hS ⊢
  refine wpAnyH_take (i := 0) (v := .pointer (some ⟨g, o, none⟩)) rfl (by kernel_rfl) (by kernel_rfl) (by kernel_rfl) (fun _ _ _ h => h) (Or.inl ⟨by kernel_rfl, fun u hSw => (by go_simp)⟩) hS ?_
  change wpAnyH _ _ _ _ _ _ _ (Act.put _ (some 5) _) _
  simp only [Act.put]
  refine wpAnyH_take (i := 1) (v := .pointer (some ⟨g, o, none⟩)) rfl (by kernel_rfl) (by kernel_rfl) (by kernel_rfl) (fun _ _ _ h => h) (Or.inl ⟨by kernel_rfl, fun u hSw => (by go_simp)⟩) hS ?_
  change wpAnyH _ _ _ _ _ _ _ (Act.put _ (some 6) _) _
  simp only [Act.put]
  refine wpAnyH_take (i := 2) (v := .pointer (some ⟨g, o, none⟩)) rfl (by kernel_rfl) (by kernel_rfl) (by kernel_rfl) (fun _ _ _ h => h) (Or.inl ⟨by kernel_rfl, fun u hSw => (by go_simp)⟩) hS ?_
  change wpAnyH _ _ _ _ _ _ _ (Act.put _ (some 7) _) _
  simp only [Act.put]
  refine wpAnyH_take (i := 3) (v := .pointer (some ⟨g, o + 2, none⟩)) rfl (by kernel_rfl) (by kernel_rfl) (by kernel_rfl) (fun _ _ _ h => h) (Or.inl ⟨by kernel_rfl, fun u hSw => (by go_simp)⟩) hS ?_
  change wpAnyH _ _ _ _ _ _ _ (Act.put _ (some 8) _) _
  simp only [Act.put]
  refine wpAnyH_take (i := 5) (v := .pointer (some ⟨g, o, none⟩)) rfl (by kernel_rfl) (by kernel_rfl) (by kernel_rfl) (fun _ _ _ h => h) (Or.inl ⟨by kernel_rfl, fun u hSw => (by go_simp)⟩) hS ?_
  change wpAnyH _ _ _ _ _ _ _ (Act.put _ (some 10) _) _
  simp only [Act.put]
  refine wpAnyH_take (i := 6) (v := .pointer (some ⟨g, o, none⟩)) rfl (by kernel_rfl) (by kernel_rfl) (by kernel_rfl) (fun _ _ _ h => h) (Or.inl ⟨by kernel_rfl, fun u hSw => (by go_simp)⟩) hS ?_
  change wpAnyH _ _ _ _ _ _ _ (Act.put _ (some 11) _) _
  simp only [Act.put]
  refine wpAnyH_take (i := 7) (v := .pointer (some ⟨g, o + 1, none⟩)) rfl (by kernel_rfl) (by kernel_rfl) (by kernel_rfl) (fun _ _ _ h => h) (Or.inl ⟨by kernel_rfl, fun u hSw => (by go_simp)⟩) hS ?_
  change wpAnyH _ _ _ _ _ _ _ (Act.put _ (some 12) _) _
  simp only [Act.put]
  refine wpAnyH_take (i := 8) (v := .int .i64 (e : Int)) rfl (by kernel_rfl) (by kernel_rfl) (by kernel_rfl) (fun _ _ _ h => h) (Or.inl ⟨by kernel_rfl, fun u hSw => (by have q := hSw.2.1; go_simp)⟩) hS ?_
  change wpAnyH _ _ _ _ _ _ _ (Act.put _ (some 13) _) _
  simp only [Act.put]
  refine wpAnyH_take (i := 9) (v := .int .u64 (e : Int)) rfl (by kernel_rfl) (by kernel_rfl) (by kernel_rfl) (fun _ _ _ h => h) (Or.inl ⟨by kernel_rfl, fun u hSw => (by go_simp; exact HCe.out)⟩) hS ?_
  change wpAnyH _ _ _ _ _ _ _ (Act.put _ (some 14) _) _
  simp only [Act.put]
  refine wpAnyH_take (i := 10) (v := .int .i64 (d : Int)) rfl (by kernel_rfl) (by kernel_rfl) (by kernel_rfl) (fun _ _ _ h => h) (Or.inl ⟨by kernel_rfl, fun u hSw => (by have q0 := hSw.2.2; go_simp)⟩) hS ?_
  change wpAnyH _ _ _ _ _ _ _ (Act.put _ (some 15) _) _
  simp only [Act.put]
  refine wpAnyH_take (i := 11) (v := .int .u64 (d : Int)) rfl (by kernel_rfl) (by kernel_rfl) (by kernel_rfl) (fun _ _ _ h => h) (Or.inl ⟨by kernel_rfl, fun u hSw => (by go_simp; exact HCd.out)⟩) hS ?_
  change wpAnyH _ _ _ _ _ _ _ (Act.put _ (some 16) _) _
  simp only [Act.put]
  refine wpAnyH_take (i := 12) (v := .int .u64 (k : Int)) rfl (by kernel_rfl) (by kernel_rfl) (by kernel_rfl) (fun _ _ _ h => h) (Or.inl ⟨by kernel_rfl, fun u hSw => (by go_simp; exact HCk.out)⟩) hS ?_
  change wpAnyH _ _ _ _ _ _ _ (Act.put _ (some 17) _) _
  simp only [Act.put]
  refine wpAnyH_ready (rs := [4]) (by kernel_rfl) (by simp) ?_
  refine AllReadyH.cons rfl (fun K hK => ?_) AllReadyH.nil
  have d0 := (GB.cell (p := ⟨g, o + 2, none⟩) hg).trans c2
  have d1 := (GB.cell (p := ⟨g, o + 2 + 1, none⟩) hg).trans c3
  have d2 := (GB.cell (p := ⟨g, o + 2 + 2, none⟩) hg).trans c4
  go_simp
  refine hK.out _ _ (HSf.out _ GB) (fun hS => ?_)
  clear hK K d0 d1 d2
  refine wpAnyH_ready (rs := [13]) (by kernel_rfl) (by simp) ?_
  refine AllReadyH.cons rfl (fun K hK => ?_) AllReadyH.nil
  go_simp
  refine (HAd.out _).mono ?_
  rintro e2 w2 ⟨rfl, h9⟩
  replace GB := GB.trans (h9.mono GB.size)
  clear h9
  refine hK.out _ _ (HSf.out _ GB) (fun hS => ?_)
  clear hK K
  refine wpAnyH_take (i := 14) (v := .tuple #[.agg #[.int .u64 (ph : Int), .int .u64 (pl : Int), .int .u64 (px : Int)], .int .i64 pe]) rfl (by kernel_rfl) (by kernel_rfl) (by kernel_rfl) (fun _ _ _ h => h) (Or.inl ⟨by kernel_rfl, fun u hSw => (by go_simp)⟩) hS ?_
  change wpAnyH _ _ _ _ _ _ _ (Act.put _ (some 4) _) _
  simp only [Act.put]
  refine wpAnyH_take (i := 15) (v := .agg #[.int .u64 (ph : Int), .int .u64 (pl : Int), .int .u64 (px : Int)]) rfl (by kernel_rfl) (by kernel_rfl) (by kernel_rfl) (fun _ _ _ h => h) (Or.inl ⟨by kernel_rfl, fun u hSw => (by go_simp)⟩) hS ?_
  change wpAnyH _ _ _ _ _ _ _ (Act.put _ (some 19) _) _
  simp only [Act.put]
  refine wpAnyH_take (i := 16) (v := .int .i64 pe) rfl (by kernel_rfl) (by kernel_rfl) (by kernel_rfl) (fun _ _ _ h => h) (Or.inl ⟨by kernel_rfl, fun u hSw => (by go_simp)⟩) hS ?_
  change wpAnyH _ _ _ _ _ _ _ (Act.put _ (some 20) _) _
  simp only [Act.put]
  refine wpAnyH_take (i := 17) (v := .pointer (some ⟨g, o, none⟩)) rfl (by kernel_rfl) (by kernel_rfl) (by kernel_rfl) (fun _ _ _ h => h) (Or.inl ⟨by kernel_rfl, fun u hSw => (by go_simp)⟩) hS ?_
  change wpAnyH _ _ _ _ _ _ _ (Act.put _ (some 21) _) _
  simp only [Act.put]
  refine wpAnyH_take (i := 18) (v := .pointer (some ⟨g, o + 2, none⟩)) rfl (by kernel_rfl) (by kernel_rfl) (by kernel_rfl) (fun _ _ _ h => h) (Or.inl ⟨by kernel_rfl, fun u hSw => (by go_simp)⟩) hS ?_
  change wpAnyH _ _ _ _ _ _ _ (Act.put _ (some 22) _) _
  simp only [Act.put]
  refine wpAnyH_ready (rs := [19]) (by kernel_rfl) (by simp) ?_
  refine AllReadyH.cons rfl (fun K hK => ?_) AllReadyH.nil
  have d0 := (GB.cell (p := ⟨g, o + 2, none⟩) hg).trans c2
  have d1 := (GB.cell (p := ⟨g, o + 2 + 1, none⟩) hg).trans c3
  have d2 := (GB.cell (p := ⟨g, o + 2 + 2, none⟩) hg).trans c4
  have f0 := (below_frozen GB (p := ⟨g, o + 2, none⟩) hg).trans z2
  have f1 := (below_frozen GB (p := ⟨g, o + 2 + 1, none⟩) hg).trans z3
  have f2 := (below_frozen GB (p := ⟨g, o + 2 + 2, none⟩) hg).trans z4
  have HE := Lib.hid GB
  have HSn := HSt.out _ GB
  go_simp
  refine hK.out _ _ HSn (fun hS => ?_)
  clear hK K d0 d1 d2 f0 f1 f2 GB HSn
  refine wpAnyH_take (i := 20) (v := .int .i64 pe) rfl (by kernel_rfl) (by kernel_rfl) (by kernel_rfl) (fun _ _ _ h => h) (Or.inl ⟨by kernel_rfl, fun u hSw => (by go_simp)⟩) hS ?_
  change wpAnyH _ _ _ _ _ _ _ (Act.put _ (some 3) _) _
  simp only [Act.put]
  refine wpAnyH_done (by kernel_rfl) ?_ _
  clear hS
  go_wp2
  go_ret
  exact ⟨_, HE.out, rfl, rfl⟩

theorem gT_one {h l x : Nat} (hr : rightN (h * 2 ^ 64 + l) x = true) (hl : l < 2 ^ 64) : gT [(h, l, x)] = ((h, l, x), true) := by
  have ha : allB [(h, l, x)] = true := by
    unfold allB
    rw [rightN_of hl] at hr
    simp [hr]
  unfold gT
  rw [if_pos ⟨by simp, ha⟩]
  have : topI [(h, l, x)] = 0 := by
    unfold topI
    show topK _ _ 1 = 0
    unfold topK
    simp [topK]
  rw [this]
  rfl
theorem lift_one {h l x : Nat} (X : Nat) (hr : rightN (h * 2 ^ 64 + l) x = true) (hl : l < 2 ^ 64) : liftR X [(h, l, x)] = overR (h * 2 ^ 64 + l) x X := by
  unfold liftR
  rw [gT_one hr hl]
  rfl

set_option maxRecDepth 100000 in
set_option maxHeartbeats 8000000 in
theorem weighdo_any (g o be bw X e h l x : Nat) (each : Int) (w : World) (hg : g < w.heap.size) (c1 : w.cell? ⟨g, o + 1, none⟩ = some (.int .i64 (e : Int))) (c2 : w.cell? ⟨g, o + 2, none⟩ = some (.int .u64 (h : Int))) (c3 : w.cell? ⟨g, o + 2 + 1, none⟩ = some (.int .u64 (l : Int))) (c4 : w.cell? ⟨g, o + 2 + 2, none⟩ = some (.int .u64 (x : Int)))
    (z2 : w.frozen? ⟨g, o + 2, none⟩ = false) (z3 : w.frozen? ⟨g, o + 2 + 1, none⟩ = false) (z4 : w.frozen? ⟨g, o + 2 + 2, none⟩ = false) (z1 : w.frozen? ⟨g, o + 1, none⟩ = false)
    (hd : w.cell? ⟨be, 0, none⟩ = some (.int .i64 each)) (hw : w.cell? ⟨bw, 0, none⟩ = some (.int .u64 (X : Int))) (hbw : bw < w.heap.size) (hne : bw ≠ g) (hX : X < 2 ^ 64) (hh : h < 2 ^ 64) (hl : l < 2 ^ 64) (hx : x < 2 ^ 64) (hr : rightN (h * 2 ^ 64 + l) x = true) :
    Calls Try.prog 66 #[.pointer (some ⟨g, o, none⟩), .pointer (some ⟨be, 0, none⟩), .pointer (some ⟨bw, 0, none⟩)] w fun r w' => ∃ w1, Below w.heap.size (w.setCell ⟨g, o + 1, none⟩ (.int .i64 each)) w1 ∧ r = .returned (.int .i64 (overR (h * 2 ^ 64 + l) x X).2.2) ∧
      w' = set3 w1 g o ((overR (h * 2 ^ 64 + l) x X).1 / 2 ^ 64) ((overR (h * 2 ^ 64 + l) x X).1 % 2 ^ 64) (overR (h * 2 ^ 64 + l) x X).2.1 := by
  have HLf := Lib.hid (fun (u : World) (gg : Nat) (K : Blk u gg 36 #[.int .u64 (h : Int), .int .u64 (l : Int), .int .u64 (x : Int)]) => (lift_one X hr hl) ▸ vlifted_any X (some ⟨gg, 0, none⟩) 1 1 [(h, l, x)] u hX rfl (by omega) (fun k p q y hk => by
    cases k with
    | zero => simp at hk; obtain ⟨rfl, rfl, rfl⟩ := hk; exact ⟨hh, hl, hx⟩
    | succ k => simp at hk) (frow1 K))
  obtain ⟨ph, hph⟩ : ∃ p, (overR (h * 2 ^ 64 + l) x X).1 / 2 ^ 64 = p := ⟨_, rfl⟩
  obtain ⟨pl, hpl⟩ : ∃ p, (overR (h * 2 ^ 64 + l) x X).1 % 2 ^ 64 = p := ⟨_, rfl⟩
  obtain ⟨px, hpx⟩ : ∃ p, (overR (h * 2 ^ 64 + l) x X).2.1 = p := ⟨_, rfl⟩
  obtain ⟨pe, hpe⟩ : ∃ p, (overR (h * 2 ^ 64 + l) x X).2.2 = p := ⟨_, rfl⟩
  simp only [fe_cells] at HLf
  rw [hph, hpl, hpx, hpe] at HLf ⊢
  obtain ⟨W0, hW0⟩ : ∃ W0, w.setCell ⟨g, o + 1, none⟩ (.int .i64 each) = W0 := ⟨_, rfl⟩
  have HZ : Hid (w.heap.size ≤ W0.heap.size) := Lib.hid (by rw [← hW0]; simp [World.setCell])
  have hwg : some bw ≠ some g := by simpa using hne
  have B0 : But (some g) w.heap.size w W0 := by rw [← hW0]; exact (below_but (Below.refl _ _) _).setCell (p := ⟨g, o + 1, none⟩) (.inl rfl) _
  have hw0 := (B0.cell (p := ⟨bw, 0, none⟩) hbw hwg).trans hw
  have HSf : Hid (∀ u, Below w.heap.size W0 u → (But (some g) w.heap.size W0 u ∧ u.cell? ⟨bw, 0, none⟩ = some (.int .u64 (X : Int)))) := Lib.hid (fun u hu => ⟨below_but hu _, (hu.cell (p := ⟨bw, 0, none⟩) hbw).trans hw0⟩)
  have HSt : Hid (∀ u, Below w.heap.size W0 u → (But (some g) w.heap.size W0 (set3 u g o ph pl px) ∧ (set3 u g o ph pl px).cell? ⟨bw, 0, none⟩ = some (.int .u64 (X : Int)))) := Lib.hid (fun u hu => ⟨set3_but hu, ((set3_but hu).cell (p := ⟨bw, 0, none⟩) hbw hwg).trans hw0⟩)
  have GB := (Below.refl w.heap.size W0).drew
  have k2 : W0.cell? ⟨g, o + 2, none⟩ = some (.int .u64 (h : Int)) := by rw [← hW0, cell_off (by omega)]; exact c2
  have k3 : W0.cell? ⟨g, o + 2 + 1, none⟩ = some (.int .u64 (l : Int)) := by rw [← hW0, cell_off (by omega)]; exact c3
  have k4 : W0.cell? ⟨g, o + 2 + 2, none⟩ = some (.int .u64 (x : Int)) := by rw [← hW0, cell_off (by omega)]; exact c4
  have y2 : W0.frozen? ⟨g, o + 2, none⟩ = false := by rw [← hW0]; simpa using z2
  have y3 : W0.frozen? ⟨g, o + 2 + 1, none⟩ = false := by rw [← hW0]; simpa using z3
  have y4 : W0.frozen? ⟨g, o + 2 + 2, none⟩ = false := by rw [← hW0]; simpa using z4
  have HW0 := Lib.hid hW0
  unfold set3 at HSt ⊢
  clear hph hpl hpx hpe hbw hne hwg hX hh hl hx hr hw0 B0 c2 c3 c4 z2 z3 z4 hW0
  have c2 := k2
  have c3 := k3
  have c4 := k4
  have z2 := y2
  have z3 := y3
  have z4 := y4
  clear k2 k3 k4 y2 y3 y4
  go_enter Try.func66, Try.ntmps66
  go_upto_region 2 with fail
  rw [HW0.out]
  refine wp_region_held_drew (S := fun u => But (some g) w.heap.size W0 u ∧ u.cell? ⟨bw, 0, none⟩ = some (.int .u64 (X : Int))) (by kernel_rfl) (HSf.out _ GB) (fun hS => ?_)
  generalize W0.drew = V at GB hS ⊢
  refine wpAnyH_take (i := 0) (v := .pointer (some ⟨g, o, none⟩)) rfl (by kernel_rfl) (by kernel_rfl) (by kernel_rfl) (fun _ _ _ h => h) (Or.inl ⟨by kernel_rfl, fun u hSw => (by go_simp)⟩) hS ?_
  change wpAnyH _ _ _ _ _ _ _ (Act.put _ (some 10) _) _
  simp only [Act.put]
  refine wpAnyH_take (i := 1) (v := .int .u64 (X : Int)) rfl (by kernel_rfl) (by kernel_rfl) (by kernel_rfl) (fun _ _ _ h => h) (Or.inl ⟨by kernel_rfl, fun u hSw => (by have q0 := hSw.2; go_simp)⟩) hS ?_
  change wpAnyH _ _ _ _ _ _ _ (Act.put _ (some 11) _) _
  simp only [Act.put]
  refine wpAnyH_take (i := 2) (v := .pointer (some ⟨g, o, none⟩)) rfl (by kernel_rfl) (by kernel_rfl) (by kernel_rfl) (fun _ _ _ h => h) (Or.inl ⟨by kernel_rfl, fun u hSw => (by go_simp)⟩) hS ?_
  change wpAnyH _ _ _ _ _ _ _ (Act.put _ (some 12) _) _
  simp only [Act.put]
  refine wpAnyH_take (i := 3) (v := .pointer (some ⟨g, o, none⟩)) rfl (by kernel_rfl) (by kernel_rfl) (by kernel_rfl) (fun _ _ _ h => h) (Or.inl ⟨by kernel_rfl, fun u hSw => (by go_simp)⟩) hS ?_
  change wpAnyH _ _ _ _ _ _ _ (Act.put _ (some 13) _) _
  simp only [Act.put]
  refine wpAnyH_take (i := 4) (v := .pointer (some ⟨g, o + 2, none⟩)) rfl (by kernel_rfl) (by kernel_rfl) (by kernel_rfl) (fun _ _ _ h => h) (Or.inl ⟨by kernel_rfl, fun u hSw => (by go_simp)⟩) hS ?_
  change wpAnyH _ _ _ _ _ _ _ (Act.put _ (some 14) _) _
  simp only [Act.put]
  refine wpAnyH_ready (rs := [5]) (by kernel_rfl) (by simp) ?_
  refine AllReadyH.cons rfl (fun K hK => ?_) AllReadyH.nil
  have d0 := (GB.cell (p := ⟨g, o + 2, none⟩) hg).trans c2
  have d1 := (GB.cell (p := ⟨g, o + 2 + 1, none⟩) hg).trans c3
  have d2 := (GB.cell (p := ⟨g, o + 2 + 2, none⟩) hg).trans c4
  go_simp
  refine hK.out _ _ (HSf.out _ GB) (fun hS => ?_)
  clear hK K d0 d1 d2
  refine wpAnyH_ready (rs := [6]) (by kernel_rfl) (by simp) ?_
  refine AllReadyH.cons rfl (fun K hK => ?_) AllReadyH.nil
  have KF := Blk.new V 36 #[.int .u64 (h : Int), .int .u64 (l : Int), .int .u64 (x : Int)]
  have GB2 := GB.alloc (Nat.le_trans HZ.out GB.size) (.cells #[.int .u64 (h : Int), .int .u64 (l : Int), .int .u64 (x : Int)] 36)
  go_simp
  refine hK.out _ _ (HSf.out _ GB2) (fun hS => ?_)
  clear hK K
  replace GB := GB2
  clear GB2
  refine wpAnyH_ready (rs := [7]) (by kernel_rfl) (by simp) ?_
  refine AllReadyH.cons rfl (fun K hK => ?_) AllReadyH.nil
  go_simp
  refine (HLf.out _ _ KF).mono ?_
  rintro e3 w3 ⟨rfl, h9⟩
  replace GB := GB.trans (h9.mono (Nat.le_trans HZ.out GB.size))
  clear h9 KF
  refine hK.out _ _ (HSf.out _ GB) (fun hS => ?_)
  clear hK K
  refine wpAnyH_take (i := 8) (v := .tuple #[.agg #[.int .u64 (ph : Int), .int .u64 (pl : Int), .int .u64 (px : Int)], .int .i64 pe]) rfl (by kernel_rfl) (by kernel_rfl) (by kernel_rfl) (fun _ _ _ h => h) (Or.inl ⟨by kernel_rfl, fun u hSw => (by go_simp)⟩) hS ?_
  change wpAnyH _ _ _ _ _ _ _ (Act.put _ (some 9) _) _
  simp only [Act.put]
  refine wpAnyH_take (i := 9) (v := .agg #[.int .u64 (ph : Int), .int .u64 (pl : Int), .int .u64 (px : Int)]) rfl (by kernel_rfl) (by kernel_rfl) (by kernel_rfl) (fun _ _ _ h => h) (Or.inl ⟨by kernel_rfl, fun u hSw => (by go_simp)⟩) hS ?_
  change wpAnyH _ _ _ _ _ _ _ (Act.put _ (some 18) _) _
  simp only [Act.put]
  refine wpAnyH_take (i := 10) (v := .int .i64 pe) rfl (by kernel_rfl) (by kernel_rfl) (by kernel_rfl) (fun _ _ _ h => h) (Or.inl ⟨by kernel_rfl, fun u hSw => (by go_simp)⟩) hS ?_
  change wpAnyH _ _ _ _ _ _ _ (Act.put _ (some 19) _) _
  simp only [Act.put]
  refine wpAnyH_take (i := 11) (v := .pointer (some ⟨g, o, none⟩)) rfl (by kernel_rfl) (by kernel_rfl) (by kernel_rfl) (fun _ _ _ h => h) (Or.inl ⟨by kernel_rfl, fun u hSw => (by go_simp)⟩) hS ?_
  change wpAnyH _ _ _ _ _ _ _ (Act.put _ (some 20) _) _
  simp only [Act.put]
  refine wpAnyH_take (i := 12) (v := .pointer (some ⟨g, o + 2, none⟩)) rfl (by kernel_rfl) (by kernel_rfl) (by kernel_rfl) (fun _ _ _ h => h) (Or.inl ⟨by kernel_rfl, fun u hSw => (by go_simp)⟩) hS ?_
  change wpAnyH _ _ _ _ _ _ _ (Act.put _ (some 21) _) _
  simp only [Act.put]
  refine wpAnyH_ready (rs := [13]) (by kernel_rfl) (by simp) ?_
  refine AllReadyH.cons rfl (fun K hK => ?_) AllReadyH.nil
  have d0 := (GB.cell (p := ⟨g, o + 2, none⟩) hg).trans c2
  have d1 := (GB.cell (p := ⟨g, o + 2 + 1, none⟩) hg).trans c3
  have d2 := (GB.cell (p := ⟨g, o + 2 + 2, none⟩) hg).trans c4
  have f0 := (below_frozen GB (p := ⟨g, o + 2, none⟩) hg).trans z2
  have f1 := (below_frozen GB (p := ⟨g, o + 2 + 1, none⟩) hg).trans z3
  have f2 := (below_frozen GB (p := ⟨g, o + 2 + 2, none⟩) hg).trans z4
  have HE := Lib.hid GB
  have HSn := HSt.out _ GB
  go_simp
  refine hK.out _ _ HSn (fun hS => ?_)
  clear hK K d0 d1 d2 f0 f1 f2 GB HSn
  refine wpAnyH_take (i := 14) (v := .int .i64 pe) rfl (by kernel_rfl) (by kernel_rfl) (by kernel_rfl) (fun _ _ _ h => h) (Or.inl ⟨by kernel_rfl, fun u hSw => (by go_simp)⟩) hS ?_
  change wpAnyH _ _ _ _ _ _ _ (Act.put _ (some 4) _) _
  simp only [Act.put]
  refine wpAnyH_done (by kernel_rfl) ?_ _
  clear hS
  go_wp2
  go_ret
  refine ⟨_, ?_, rfl, rfl⟩
  rw [HW0.out]
  exact HE.out

end Go.Proofs.Ytfgabmelmopgdaa
