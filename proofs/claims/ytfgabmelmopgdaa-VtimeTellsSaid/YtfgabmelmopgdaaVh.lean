/-
  The landed vtime: the closure that holds a Time near the top (Join's), and added's. No statement is proved here.
-/
import Derived.Test.YtfgabmelmopgdaaVg
namespace Go.Proofs.Ytfgabmelmopgdaa
open Go.RowKit

set_option maxRecDepth 100000 in
set_option maxHeartbeats 2000000 in
theorem joinnone_any (gq gr gb : Nat) (A : Option Addr) (n c boost e h l x p q : Nat) (w : World) (hgq : gq < w.heap.size) (hgr : gr < w.heap.size) (hgb : gb < w.heap.size) (cq : w.cell? ⟨gq, 0, none⟩ = some (.slice A n c)) (r1 : w.cell? ⟨gr, 1, none⟩ = some (.int .i64 (e : Int))) (r2 : w.cell? ⟨gr, 2, none⟩ = some (.int .u64 (h : Int))) (r3 : w.cell? ⟨gr, 3, none⟩ = some (.int .u64 (l : Int))) (r4 : w.cell? ⟨gr, 4, none⟩ = some (.int .u64 (x : Int))) (cb : w.cell? ⟨gb, 0, none⟩ = some (.int .u64 (boost : Int))) (h0 : n = 0) :
    Calls Try.prog 47 #[.agg #[.int .u64 (p : Int), .int .u64 (q : Int), .int .u64 (x : Int)], .pointer (some ⟨gq, 0, none⟩), .pointer (some ⟨gr, 0, none⟩), .pointer (some ⟨gb, 0, none⟩)] w (Said (.agg #[.int .u64 (h : Int), .int .u64 (l : Int), .int .u64 (x : Int)]) w) := by
  obtain ⟨K0, K, GB⟩ := blks2 w 36 36 #[.int .u64 (p : Int), .int .u64 (q : Int), .int .u64 (x : Int)] #[.int .u64 0, .int .u64 0, .int .u64 0]
  have HQ := Lib.hid (fun (u : World) (h : Below w.heap.size w u) => (h.cell (p := ⟨gq, 0, none⟩) hgq).trans cq)
  have H1 := Lib.hid (fun (u : World) (h : Below w.heap.size w u) => (h.cell (p := ⟨gr, 1, none⟩) hgr).trans r1)
  have H2 := Lib.hid (fun (u : World) (h : Below w.heap.size w u) => (h.cell (p := ⟨gr, 2, none⟩) hgr).trans r2)
  have H3 := Lib.hid (fun (u : World) (h : Below w.heap.size w u) => (h.cell (p := ⟨gr, 3, none⟩) hgr).trans r3)
  have H4 := Lib.hid (fun (u : World) (h : Below w.heap.size w u) => (h.cell (p := ⟨gr, 4, none⟩) hgr).trans r4)
  have HBo := Lib.hid (fun (u : World) (h : Below w.heap.size w u) => (h.cell (p := ⟨gb, 0, none⟩) hgb).trans cb)
  have q0 := HQ.out _ GB
  have q2 := H2.out _ GB
  have q3 := H3.out _ GB
  have q4 := H4.out _ GB
  have e0 : ((n : Int) == 0) = true := by simp; omega
  have HP := Lib.hid (And.intro (blks2 w 36 36 #[.int .u64 (p : Int), .int .u64 (q : Int), .int .u64 (x : Int)] #[.int .u64 (h : Int), .int .u64 (l : Int), .int .u64 (x : Int)]).2.1 (blks2 w 36 36 #[.int .u64 (p : Int), .int .u64 (q : Int), .int .u64 (x : Int)] #[.int .u64 (h : Int), .int .u64 (l : Int), .int .u64 (x : Int)]).2.2)
  clear cq r1 r2 r3 r4 cb h0 K0 K GB
  go_enter Try.func47, Try.ntmps47
  go_wp2_with fail
  exact bodyPost_ret (v := .agg #[.int .u64 (h : Int), .int .u64 (l : Int), .int .u64 (x : Int)]) (results_cell_row Try.results47 _ _ _ _ _ _ _ rfl HP.out.1 Try.underlying36 rfl (by kernel_rfl)) rfl ⟨rfl, HP.out.2⟩

set_option maxRecDepth 100000 in
set_option maxHeartbeats 4000000 in
theorem joinsome_any (gq gr gb : Nat) (A : Option Addr) (n c boost e h l x p q : Nat) (w : World) (hgq : gq < w.heap.size) (hgr : gr < w.heap.size) (hgb : gb < w.heap.size) (cq : w.cell? ⟨gq, 0, none⟩ = some (.slice A n c)) (r1 : w.cell? ⟨gr, 1, none⟩ = some (.int .i64 (e : Int))) (r2 : w.cell? ⟨gr, 2, none⟩ = some (.int .u64 (h : Int))) (r3 : w.cell? ⟨gr, 3, none⟩ = some (.int .u64 (l : Int))) (r4 : w.cell? ⟨gr, 4, none⟩ = some (.int .u64 (x : Int))) (cb : w.cell? ⟨gb, 0, none⟩ = some (.int .u64 (boost : Int))) (h0 : 0 < n) (he : e ≤ 8) (hb : boost ≤ 10000000) (hh : h < 2 ^ 64) (hl : l < 2 ^ 64) (hp : p < 2 ^ 64) (hq : q < 2 ^ 64) (hr : rightN (h * 2 ^ 64 + l) x = true) (ht : rightN (p * 2 ^ 64 + q) x = true) :
    Calls Try.prog 47 #[.agg #[.int .u64 (p : Int), .int .u64 (q : Int), .int .u64 (x : Int)], .pointer (some ⟨gq, 0, none⟩), .pointer (some ⟨gr, 0, none⟩), .pointer (some ⟨gb, 0, none⟩)] w (Said (.agg (fq (heldN (h * 2 ^ 64 + l) (p * 2 ^ 64 + q - min (268435456 * x) (boost * e)) (p * 2 ^ 64 + q)) x)) w) := by
  obtain ⟨K0, K, GB⟩ := blks2 w 36 36 #[.int .u64 (p : Int), .int .u64 (q : Int), .int .u64 (x : Int)] #[.int .u64 0, .int .u64 0, .int .u64 0]
  have hx := (rightN_true hr)
  have hbe : boost * e ≤ 10000000 * 8 := Nat.mul_le_mul hb he
  obtain ⟨be, hbe2⟩ : ∃ k, boost * e = k := ⟨_, rfl⟩
  obtain ⟨sx, hsx⟩ : ∃ k, 268435456 * x = k := ⟨_, rfl⟩
  have hsb : sx ≤ 268435456 * 65535 := by omega
  rw [hbe2] at hbe
  obtain ⟨m, hm⟩ : ∃ m, min sx be = m := ⟨_, rfl⟩
  have hmb : m < 2 ^ 64 := by omega
  have HLe := Lib.hid (fun (u : World) => less_call p q x m u hp hq (by omega) hmb)
  have hlr : lessR (p * 2 ^ 64 + q) x m = (p * 2 ^ 64 + q - m, x, 0) := by unfold lessR; rw [if_pos ht]
  rw [hlr] at HLe
  simp only [fe_cells] at HLe
  have hpq : p * 2 ^ 64 + q < 2 ^ 100 := (rightN_true ht).2.2
  obtain ⟨a, ha⟩ : ∃ a, (p * 2 ^ 64 + q - m) / 2 ^ 64 = a := ⟨_, rfl⟩
  obtain ⟨b, hb2⟩ : ∃ b, (p * 2 ^ 64 + q - m) % 2 ^ 64 = b := ⟨_, rfl⟩
  have hab : p * 2 ^ 64 + q - m = a * 2 ^ 64 + b := by omega
  have hab2 : a < 2 ^ 64 ∧ b < 2 ^ 64 := by omega
  rw [ha, hb2] at HLe
  rw [hsx, hbe2, hm, hab]
  have habs : a * 2 ^ 64 + b < 2 ^ 100 := by rw [← hab]; exact Nat.lt_of_le_of_lt (Nat.sub_le _ _) hpq
  have hrl : rightN (a * 2 ^ 64 + b) x = true := rightN_yes hx.1 hx.2.1 habs
  have HHe := Lib.hid (fun (u : World) => held_any h l a b p q x u hh hl hab2.1 hab2.2 hp hq hr hrl ht)
  obtain ⟨y, hy⟩ : ∃ y, heldN (h * 2 ^ 64 + l) (a * 2 ^ 64 + b) (p * 2 ^ 64 + q) = y := ⟨_, rfl⟩
  rw [hy] at HHe ⊢
  obtain ⟨yh, yl, hyq⟩ : ∃ yh yl : Nat, fq y x = #[.int .u64 (yh : Int), .int .u64 (yl : Int), .int .u64 (x : Int)] := ⟨_, _, rfl⟩
  rw [hyq] at HHe ⊢
  have HW1 : Hid (IntKind.u64.wrap (268435456 * (x : Int)) = (sx : Int)) := Lib.hid (by rw [IntKind.wrap_u64]; omega)
  have HW2 : Hid (IntKind.u64.wrap (e : Int) = (e : Int)) := Lib.hid (by rw [IntKind.wrap_u64]; omega)
  have HW3 : Hid (IntKind.u64.wrap ((boost : Int) * (e : Int)) = (be : Int)) := Lib.hid (by rw [IntKind.wrap_u64, ← hbe2, ← Int.natCast_mul]; omega)
  have HM := Lib.hid hm
  have HQ := Lib.hid (fun (u : World) (h : Below w.heap.size w u) => (h.cell (p := ⟨gq, 0, none⟩) hgq).trans cq)
  have H1 := Lib.hid (fun (u : World) (h : Below w.heap.size w u) => (h.cell (p := ⟨gr, 1, none⟩) hgr).trans r1)
  have H2 := Lib.hid (fun (u : World) (h : Below w.heap.size w u) => (h.cell (p := ⟨gr, 2, none⟩) hgr).trans r2)
  have H3 := Lib.hid (fun (u : World) (h : Below w.heap.size w u) => (h.cell (p := ⟨gr, 3, none⟩) hgr).trans r3)
  have H4 := Lib.hid (fun (u : World) (h : Below w.heap.size w u) => (h.cell (p := ⟨gr, 4, none⟩) hgr).trans r4)
  have HBo := Lib.hid (fun (u : World) (h : Below w.heap.size w u) => (h.cell (p := ⟨gb, 0, none⟩) hgb).trans cb)
  have q0 := HQ.out _ GB
  have q1 := H1.out _ GB
  have q2 := H2.out _ GB
  have q3 := H3.out _ GB
  have q4 := H4.out _ GB
  have q5 := HBo.out _ GB
  have z0 := K0.cell 0
  have z1 := K0.cell 1
  have z2 := K0.cell 2
  have e0 : ((n : Int) == 0) = false := by simp; omega
  have w1 := HW1.out
  have w2 := HW2.out
  have w3 := HW3.out
  clear habs hrl cq r1 r2 r3 r4 cb h0 hx hbe hbe2 hsx hsb hm hmb hlr hpq ha hb2 hab hab2 hy hyq he hb hh hl hp hq hr ht
  go_enter Try.func47, Try.ntmps47
  go_upto_region 3 with fail
  go_wp2_with fail
  rw [show min (sx : Int) (be : Int) = (m : Int) by rw [← HM.out]; omega]
  refine (HLe.out _).mono ?_
  rintro e w4 ⟨rfl, h9⟩
  replace K0 := K0.below h9 K0.lt
  replace K := K.below h9 K.lt
  replace GB := GB.trans (h9.mono GB.size)
  clear h9 q0 q1 q2 q3 q4 q5 z0 z1 z2 w1 w2 w3
  have K1 := Blk.new w4 36 #[.int .u64 (a : Int), .int .u64 (b : Int), .int .u64 (x : Int)]
  replace K0 := K0.alloc (.cells #[.int .u64 (a : Int), .int .u64 (b : Int), .int .u64 (x : Int)] 36)
  replace K := K.alloc (.cells #[.int .u64 (a : Int), .int .u64 (b : Int), .int .u64 (x : Int)] 36)
  replace GB := GB.alloc GB.size (.cells #[.int .u64 (a : Int), .int .u64 (b : Int), .int .u64 (x : Int)] 36)
  have q2 := H2.out _ GB
  have q3 := H3.out _ GB
  have q4 := H4.out _ GB
  have zK00 := K0.cell 0
  have zK01 := K0.cell 1
  have zK02 := K0.cell 2
  have zK10 := K1.cell 0
  have zK11 := K1.cell 1
  have zK12 := K1.cell 2
  go_wp2_with fail
  refine (HHe.out _).mono ?_
  rintro e w5 ⟨rfl, h9⟩
  replace K0 := K0.below h9 K0.lt
  replace K := K.below h9 K.lt
  replace K1 := K1.below h9 K1.lt
  replace GB := GB.trans (h9.mono GB.size)
  clear h9
  clear zK00 zK01 zK02 zK10 zK11 zK12
  clear q2 q3 q4 K0 K1
  have d0 := K.cell 0
  have f0 := K.frozen 0
  have d1 := K.cell 1
  have f1 := K.frozen 1
  have d2 := K.cell 2
  have f2 := K.frozen 2
  have HP := Lib.hid (put3 (x := .int .u64 (yh : Int)) (y := .int .u64 (yl : Int)) (z := .int .u64 (x : Int)) K GB (by omega))
  clear K GB
  go_wp2_with fail
  exact bodyPost_ret (v := .agg #[.int .u64 (yh : Int), .int .u64 (yl : Int), .int .u64 (x : Int)]) (results_cell_row Try.results47 _ _ _ _ _ _ _ rfl HP.out.1 Try.underlying36 rfl (by kernel_rfl)) rfl ⟨rfl, HP.out.2⟩
end Go.Proofs.Ytfgabmelmopgdaa
