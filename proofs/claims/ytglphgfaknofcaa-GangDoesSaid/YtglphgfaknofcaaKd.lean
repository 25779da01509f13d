/-
  The statements' ints, and what they do to gangs. No statement is proved here.
-/
import Derived.Test.YtglphgfaknofcaaKb
namespace Go.Proofs.Ytglphgfaknofcaa
open Go.RowKit Go.Maps

def intsL (l : List Int) : List Int := l.take 17
def IntsSaid (l : List Int) (w : World) (e : Ending) (w' : World) : Prop := ∃ A n c, e = .returned (.slice A n c) ∧ n ≤ 17 ∧ w'.ownsRow w.heap.size 3 1 (.slice A n c) n (vs (intsL l)) ∧ Below w.heap.size w w'
set_option maxRecDepth 100000 in
set_option maxHeartbeats 4000000 in
theorem ints_any (A : Option Addr) (n c : Nat) (is : List Int) (w : World) (hR : Reads w w.heap.size 1 A n (vs is)) (hc : n ≤ c) : Calls Try.prog 30 #[.slice A n c] w (IntsSaid is w) := by
  obtain ⟨i0, hi0, hz0, hz1, hz2⟩ := info_parts9 int_info
  have hcut := cut_vs hR 17
  obtain ⟨q, hq⟩ : ∃ q, min n 17 = q := ⟨_, rfl⟩
  have HQ7 : Hid (q ≤ 17) := Lib.hid (by omega)
  rw [hq] at hcut
  have hmi : min (n : Int) 17 = (q : Int) := by omega
  have m0 : (0 : Int) ≤ (q : Int) := by omega
  have m1 : (q : Int) ≤ (c : Int) := by omega
  have HC := Lib.hid (hcut.alloc (Nat.le_refl _) (.cells #[] 3))
  have HBA := Lib.hid ((Below.refl w.heap.size w).alloc (Nat.le_refl _) (.cells #[] 3))
  clear hcut hq hR
  go_enter Try.func30, Try.ntmps30
  go_wp2_with (first
    | (at_builtin
       refine wpList_append_any _ rfl (.tmp 3) (.tmp 8) 28 rfl w.heap.size 3 i0 (.int .i64 0) 1 8 Try.underlying28 hi0 hz0 hz1 hz2 rfl (by decide) (.slice (some ⟨w.heap.size, 0, none⟩) 0 0) 0 [] rfl (by simpa using World.ownsRow_made w #[] 0 (Nat.le_refl _) (by simp [maxLen]) (by simp)) _ A q c (vs (is.take 17)) rfl HC.out (vs_ones _) (by have := HQ7.out; simp only [maxLen]; omega) (by omega) (by simp) ?_
       intro v4 w4 own4 grow4 _
       rw [List.nil_append, Nat.zero_add] at own4
       obtain ⟨A4, c4, rfl, _, _⟩ := own_reads own4
       have h9 := HBA.out.grown grow4 HBA.out.size (fun k hk => by simp [Value.ownBlock] at hk; omega)
       have HE := Lib.hid (And.intro own4 h9)
       clear own4 grow4 h9))
  go_ret
  exact ⟨A4, q, c4, rfl, HQ7.out, HE.out.1, HE.out.2⟩

abbrev OpT := Int × Int × Gg
/-- what an op comes to: its kind, less its sign, by 6 -/
def runV (q : Int) (N : Int) (ms : List Int) (l : List Gm) : Int × Int × List Gm :=
  if q = 0 ∨ q = 1 ∨ q = 2 then (unfV l ms, (if unfV l ms = 0 then (gapG l : Int) + 1 else 0), if unfV l ms = 0 then formG l ms else [])
  else if q = 3 then ((amV (isV N) l).2, 0, if (amV (isV N) l).2 = 0 then l.eraseIdx (plV (isV N) l) else [])
  else ((amV (hasV N) l).2, 0, if (amV (hasV N) l).2 = 0 then leaveL N l else [])
def RunSaid (V : Int × Int × List Gm) (w : World) (e : Ending) (w' : World) : Prop :=
  ∃ A n c G, e = .returned (.tuple #[.agg #[.slice A n c], .int .i64 V.2.1, .int .i64 V.1]) ∧ NO w' w.heap.size A n c G ∧ gsM G = V.2.2 ∧ Below w.heap.size w w'
theorem runV_form {q : Int} (h : q = 0 ∨ q = 1 ∨ q = 2) (N : Int) (ms : List Int) (l : List Gm) : runV q N ms l = (unfV l ms, (if unfV l ms = 0 then (gapG l : Int) + 1 else 0), if unfV l ms = 0 then formG l ms else []) := if_pos h
theorem runV_part (N : Int) (ms : List Int) (l : List Gm) : runV 3 N ms l = ((amV (isV N) l).2, 0, if (amV (isV N) l).2 = 0 then l.eraseIdx (plV (isV N) l) else []) := by
  unfold runV
  rw [if_neg (by omega), if_pos rfl]
theorem runV_leave {q : Int} (h : q = 4 ∨ q = 5) (N : Int) (ms : List Int) (l : List Gm) : runV q N ms l = ((amV (hasV N) l).2, 0, if (amV (hasV N) l).2 = 0 then leaveL N l else []) := by
  unfold runV
  rw [if_neg (by omega), if_neg (by omega)]
def kindQ (K : Int) : Int := (IntKind.u64.wrap K).tmod 6
theorem kind_six (K : Int) : kindQ K = 0 ∨ kindQ K = 1 ∨ kindQ K = 2 ∨ kindQ K = 3 ∨ kindQ K = 4 ∨ kindQ K = 5 := by
  have h : 0 ≤ IntKind.u64.wrap K := by
    unfold IntKind.wrap
    simp [IntKind.signed, IntKind.bits]
    omega
  unfold kindQ
  rw [Int.tmod_eq_emod_of_nonneg h]
  omega

/-- the numbers given to Form, written over behind it -/
structure RF (w : World) (S0 B hb : Nat) (Ai : Option Addr) (ni ci : Nat) (A5 : Option Addr) (n5 c5 : Nat) (G5 : List Gn) (wr : World) : Prop where
  own : ∃ xs, wr.ownsRow S0 3 1 (.slice Ai ni ci) ni xs
  no : NO wr B A5 n5 c5 G5
  box : Blk wr hb 24 #[.slice A5 n5 c5]
  bel : Below w.heap.size w wr
  lt : ∀ j, (Value.slice Ai ni ci).ownBlock = some j → j < B
  s0 : w.heap.size ≤ S0 ∧ hb < S0
theorem RF.put {w : World} {S0 B hb : Nat} {Ai : Option Addr} {ni ci : Nat} {A5 : Option Addr} {n5 c5 : Nat} {G5 : List Gn} {wr : World} (h : RF w S0 B hb Ai ni ci A5 n5 c5 G5 wr) {k : Nat} (hk : k < ni) :
    ∃ g, Ai = some ⟨g, 0, none⟩ ∧ (∃ u, wr.cell? ⟨g, k, none⟩ = some u) ∧ wr.frozen? ⟨g, k, none⟩ = false ∧ ∀ q, RF w S0 B hb (some ⟨g, 0, none⟩) ni ci A5 n5 c5 G5 ((wr.drewN q).setCell ⟨g, k, none⟩ (.int .i64 99)) := by
  obtain ⟨xs, hO⟩ := h.own
  obtain ⟨g, cur, rfl, hbg, K, hnc, hcm, hsz, hX⟩ := blk_own hO (by omega)
  have hgB : g < B := h.lt g rfl
  refine ⟨g, rfl, ⟨_, by rw [K.cell]; exact Array.getElem?_eq_getElem (by rw [hsz]; omega)⟩, K.frozen _, fun q => ⟨⟨_, own_blk ((K.drewN q).set_ k (.int .i64 99)) hbg hcm (by rw [Array.size_setIfInBounds, hsz]) hnc rfl⟩, (h.no.below (below_drewN (Below.refl _ wr) q)).set hgB k _, (h.box.drewN q).far (p := ⟨g, k, none⟩) (by have := h.s0.2; simp; omega) _, (below_drewN h.bel q).setCell (p := ⟨g, k, none⟩) (by have := h.s0.1; simp; omega) _, h.lt, h.s0⟩⟩

set_option maxRecDepth 100000 in
set_option maxHeartbeats 16000000 in
theorem run_any (K N : Int) (A2 : Option Addr) (m c2 : Nat) (ms : List Int) (A : Option Addr) (n c : Nat) (gs : List Gn) (w : World) (hG : NW w A n gs) (hc : n ≤ c) (hR : Reads w w.heap.size 1 A2 m (vs ms)) (hm : m ≤ c2) :
    Calls Try.prog 11 #[.agg #[.int .i64 K, .int .i64 N, .slice A2 m c2], .agg #[.slice A n c]] w (RunSaid (runV (kindQ K) N (intsL ms) (gsM gs)) w) := by
  obtain ⟨K0, K1, K2, GB⟩ := blks3 w 30 24 24 #[.int .i64 K, .int .i64 N, .slice A2 m c2] #[.slice A n c] #[.slice none 0 0]
  have HG := Lib.hid hG
  have a0 := K0.cell 0
  have a1 := K0.cell 1
  have a2 := K0.cell 2
  have b0 := K1.cell 0
  have HK1 := Lib.hid K1
  have HK2 := Lib.hid K2
  have HGB := Lib.hid GB
  have HIn := Lib.hid (ints_any A2 m c2 ms _ ((hR.below GB).more GB.size) hm)
  have hPa := part_any A n c gs N _ (hG.below GB) hc
  have hLe := leave_any A n c gs N _ (hG.below GB) hc
  obtain ⟨q, hq⟩ : ∃ q, kindQ K = q := ⟨_, rfl⟩
  have h6 := kind_six K
  rw [hq] at h6 ⊢
  unfold kindQ at hq
  obtain ⟨V, hV⟩ : ∃ V, runV q N (intsL ms) (gsM gs) = V := ⟨_, rfl⟩
  have hfo : (q = 0 ∨ q = 1 ∨ q = 2) → ∀ (u : World) (Ai : Option Addr) (ni ci : Nat), NW u A n gs → IR u Ai ni (intsL ms) → Calls Try.prog 29 #[.agg #[.slice A n c], .slice Ai ni ci] u (RunSaid V u) := fun h u Ai ni ci h1 h2 => by
    rw [← hV, runV_form h]
    exact form_any A n c gs Ai ni ci (intsL ms) u h1 hc h2
  have hpa : q = 3 → V = ((amV (isV N) (gsM gs)).2, 0, if (amV (isV N) (gsM gs)).2 = 0 then (gsM gs).eraseIdx (plV (isV N) (gsM gs)) else []) := fun h => by rw [← hV, h, runV_part]
  have hle : (q = 4 ∨ q = 5) → V = ((amV (hasV N) (gsM gs)).2, 0, if (amV (hasV N) (gsM gs)).2 = 0 then leaveL N (gsM gs) else []) := fun h => by rw [← hV, runV_leave h]
  rw [hV]
  clear hV
  clear hG hR K0 K1 K2 GB
  rcases h6 with h6 | h6 | h6 | h6 | h6 | h6
  all_goals subst h6
  iterate 3
    · have HFo := Lib.hid (hfo (by omega))
      clear hfo hpa hle hPa hLe
      go_enter Try.func11, Try.ntmps11
      go_wp2_with fail
      refine HIn.out.mono ?_
      rintro e w1 ⟨Ai, ni, ci, rfl, hi17, hO, h1⟩
      have HB1 := Lib.hid (HGB.out.trans (h1.mono HGB.out.size))
      have HOw := Lib.hid hO
      have H1 := Lib.hid h1
      have b1 := (HK1.out.below h1 HK1.out.lt).cell 0
      have HFo := Lib.hid (HFo.out w1 Ai ni ci (HG.out.below HB1.out) ⟨Reads.of_own hO, by omega⟩)
      clear a0 a1 a2 b0 hO h1
      go_wp2_with fail
      refine HFo.out.mono ?_
      rintro e w5 ⟨A5, n5, c5, G5, rfl, N5, E5, h5⟩
      have J2 := (HK2.out.below H1.out HK2.out.lt).below h5 (HK2.out.below H1.out HK2.out.lt).lt
      have x2 := J2.cell 0
      have x3 := J2.frozen 0
      have hb5 := HB1.out.trans (h5.mono HB1.out.size)
      have HP := Lib.hid (put1 (x := .slice A5 n5 c5) J2 hb5 (by omega))
      have hs1 : w.heap.size + 1 + 1 < w1.heap.size := (HK2.out.below H1.out HK2.out.lt).lt
      have HRF : Hid (RF w (((w.alloc (.cells #[.int .i64 K, .int .i64 N, .slice A2 m c2] 30)).alloc (.cells #[.slice A n c] 24)).alloc (.cells #[.slice none 0 0] 24)).heap.size w1.heap.size (w.heap.size + 1 + 1) Ai ni ci A5 n5 c5 G5 (w5.setCell ⟨w.heap.size + 1 + 1, 0, none⟩ (.slice A5 n5 c5))) := Lib.hid ⟨⟨_, own_set (own_below HOw.out h5) (by have := HK2.out.lt; exact this) 0 _⟩, N5.set hs1 0 _, HP.out.1, HP.out.2, fun j hj => (HOw.out.lt j hj).2, HGB.out.size, HK2.out.lt⟩
      have HE5 := Lib.hid E5
      have hni : ni ≤ 17 := hi17
      clear N5 E5 h5 J2 hb5 b1
      go_wp2_with fail
      generalize w5.setCell ⟨w.heap.size + 1 + 1, 0, none⟩ (.slice A5 n5 c5) = w6 at *
      go_loopw [36] (fun iv wr => ∃ k : Nat, k ≤ ni ∧ iv = .int .i64 (k : Int) ∧ Hid (RF w (((w.alloc (.cells #[.int .i64 K, .int .i64 N, .slice A2 m c2] 30)).alloc (.cells #[.slice A n c] 24)).alloc (.cells #[.slice none 0 0] 24)).heap.size w1.heap.size (w.heap.size + 1 + 1) Ai ni ci A5 n5 c5 G5 wr)) (fun iv _ => ni - (intOf iv).toNat)
      case atStart => exact ⟨0, by omega, rfl, HRF⟩
      case round =>
        clear HRF
        obtain ⟨k, hk, rfl, HR⟩ := hrel
        by_cases hlt : k < ni
        · obtain ⟨g, rfl, ⟨u, y0⟩, y1, hN⟩ := HR.out.put hlt
          have HN := Lib.hid hN
          have i1 : (0 : Int) ≤ (k : Int) := by omega
          have i2 : (k : Int) < (ni : Int) := by omega
          clear hN
          go_wp2_with fail
          go_roundw
          case rel => exact ⟨k + 1, by omega, by go_num, Lib.hid (HN.out 0)⟩
          case measure => simp [intOf]; omega
        · obtain rfl : k = ni := by omega
          have z0 := HR.out.box.cell 0
          have z1 := HR.out.box.frozen 0
          have HP2 := Lib.hid (put1 (x := .slice A5 n5 c5) HR.out.box HR.out.bel (by omega))
          have HNN := Lib.hid (((HR.out.no.set (g := w.heap.size + 1 + 1) hs1 0 (.slice A5 n5 c5)).down HB1.out.size) : NO (wr.setCell ⟨w.heap.size + 1 + 1, 0, none⟩ (.slice A5 n5 c5)) w.heap.size A5 n5 c5 G5)
          go_wp2_with fail
          exact bodyPost_ret (v := .tuple #[.agg #[.slice A5 n5 c5], .int .i64 _, .int .i64 _]) (results_cell_tmp2 Try.results11 _ _ _ _ _ _ rfl HP2.out.1 Try.underlying24 rfl (by kernel_rfl)) rfl ⟨A5, n5, c5, G5, rfl, HNN.out, HE5.out, HP2.out.2⟩
  iterate 1
    · obtain ⟨E, i, R⟩ := V
      have hh := hpa rfl
      injection hh with h1 h2
      injection h2 with h2 h3
      rw [← h3, ← h1] at hPa
      subst h2
      have HPa := Lib.hid hPa
      clear hfo hpa hle hPa hLe h1 h3
      go_enter Try.func11, Try.ntmps11
      go_wp2_with fail
      refine HPa.out.mono ?_
      rintro e w5 ⟨A5, n5, c5, G5, rfl, N5, E5, h5⟩
      have J2 := HK2.out.below h5 HK2.out.lt
      have x2 := J2.cell 0
      have x3 := J2.frozen 0
      have hb5 := HGB.out.trans (h5.mono HGB.out.size)
      have HP := Lib.hid (put1 (x := .slice A5 n5 c5) J2 hb5 (by omega))
      have z0 := HP.out.1.cell 0
      have z1 := HP.out.1.frozen 0
      have HP2 := Lib.hid (put1 (x := .slice A5 n5 c5) HP.out.1 HP.out.2 (by omega))
      have HNN := Lib.hid ((((N5.set (g := w.heap.size + 1 + 1) HK2.out.lt 0 (.slice A5 n5 c5)).set (g := w.heap.size + 1 + 1) HK2.out.lt 0 (.slice A5 n5 c5)).down HGB.out.size) : NO ((w5.setCell ⟨w.heap.size + 1 + 1, 0, none⟩ (.slice A5 n5 c5)).setCell ⟨w.heap.size + 1 + 1, 0, none⟩ (.slice A5 n5 c5)) w.heap.size A5 n5 c5 G5)
      have HE5 := Lib.hid E5
      clear N5 E5 h5 J2 hb5 a0 a1 a2 b0
      go_wp2_with fail
      exact bodyPost_ret (v := .tuple #[.agg #[.slice A5 n5 c5], .int .i64 _, .int .i64 _]) (results_cell_tmp2 Try.results11 _ _ _ _ _ _ rfl HP2.out.1 Try.underlying24 rfl (by kernel_rfl)) rfl ⟨A5, n5, c5, G5, rfl, HNN.out, HE5.out, HP2.out.2⟩
  iterate 2
    · obtain ⟨E, i, R⟩ := V
      have hh := hle (by omega)
      injection hh with h1 h2
      injection h2 with h2 h3
      rw [← h3, ← h1] at hLe
      subst h2
      have HLe := Lib.hid hLe
      clear hfo hpa hle hPa hLe h1 h3
      go_enter Try.func11, Try.ntmps11
      go_wp2_with fail
      refine HLe.out.mono ?_
      rintro e w5 ⟨A5, n5, c5, G5, rfl, N5, E5, h5⟩
      have J2 := HK2.out.below h5 HK2.out.lt
      have x2 := J2.cell 0
      have x3 := J2.frozen 0
      have hb5 := HGB.out.trans (h5.mono HGB.out.size)
      have HP := Lib.hid (put1 (x := .slice A5 n5 c5) J2 hb5 (by omega))
      have z0 := HP.out.1.cell 0
      have z1 := HP.out.1.frozen 0
      have HP2 := Lib.hid (put1 (x := .slice A5 n5 c5) HP.out.1 HP.out.2 (by omega))
      have HNN := Lib.hid ((((N5.set (g := w.heap.size + 1 + 1) HK2.out.lt 0 (.slice A5 n5 c5)).set (g := w.heap.size + 1 + 1) HK2.out.lt 0 (.slice A5 n5 c5)).down HGB.out.size) : NO ((w5.setCell ⟨w.heap.size + 1 + 1, 0, none⟩ (.slice A5 n5 c5)).setCell ⟨w.heap.size + 1 + 1, 0, none⟩ (.slice A5 n5 c5)) w.heap.size A5 n5 c5 G5)
      have HE5 := Lib.hid E5
      clear N5 E5 h5 J2 hb5 a0 a1 a2 b0
      go_wp2_with fail
      exact bodyPost_ret (v := .tuple #[.agg #[.slice A5 n5 c5], .int .i64 _, .int .i64 _]) (results_cell_tmp2 Try.results11 _ _ _ _ _ _ rfl HP2.out.1 Try.underlying24 rfl (by kernel_rfl)) rfl ⟨A5, n5, c5, G5, rfl, HNN.out, HE5.out, HP2.out.2⟩

end Go.Proofs.Ytglphgfaknofcaa
