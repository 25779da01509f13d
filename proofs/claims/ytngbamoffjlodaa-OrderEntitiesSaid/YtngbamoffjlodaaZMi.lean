/-
  Several texts as one.
-/
import Derived.Test.YtngbamoffjlodaaZMb
import Derived.Test.YtngbamoffjlodaaZDLc
import Derived.Test.YtngbamoffjlodaaZMa
/-
  The landed comparisons: byFresh, byTime, byOrder, byMember; one behind the other (chain, standing). No statement is proved here.
-/
namespace Go.Proofs.Ytngbamoffjlodaa
open Go.RowKit

/-- the world is the old one grown -/
abbrev Gr (w w' : World) : Prop := Dw.Below w.heap.size w w'
def Says (v : Value) (w : World) (e : Ending) (w' : World) : Prop := e = .returned v ∧ Gr w w'
theorem Gr.two (w : World) (o p : Obj) : Gr w ((w.alloc o).alloc p) := ((Dw.Below.refl _ w).alloc (Nat.le_refl _) o).alloc (by simp) p
theorem Gr.then_ {w w' w'' : World} (h : Gr w w') (k : Gr w' w'') : Gr w w'' := h.trans (k.mono h.size)
theorem cmp_grown (h l x h' l' x' : Nat) (u : World) (hh : h < 2 ^ 64) (hl : l < 2 ^ 64) (hx : x < 2 ^ 64) (hh' : h' < 2 ^ 64) (hl' : l' < 2 ^ 64) (hx' : x' < 2 ^ 64) :
    Calls Try.prog 27 #[.agg #[.int .u64 (h : Int), .int .u64 (l : Int), .int .u64 (x : Int)], .agg #[.int .u64 (h' : Int), .int .u64 (l' : Int), .int .u64 (x' : Int)]] u (Says (.int .i64 (cmpR (h * 2 ^ 64 + l) x (h' * 2 ^ 64 + l') x')) u) := by
  have q := Dw.compare_ok (h * 2 ^ 64 + l) x (h' * 2 ^ 64 + l') x' u (by omega) hx (by omega) hx'
  rw [Dw.fq_of hl, Dw.fq_of hl'] at q
  exact q

set_option maxRecDepth 100000 in
set_option maxHeartbeats 400000 in
theorem uisnan_any (a : Int) (w : World) : Calls Try.prog 112 #[.int .u64 a] w fun e w' => e = .returned (.bool false) ∧ w = w' := by
  have e0 : (a == a) = true := by simp
  go_enter Try.func112, Try.ntmps112
  go_wp2
  go_ret
  exact ⟨rfl, rfl⟩

set_option maxRecDepth 100000 in
set_option maxHeartbeats 1000000 in
theorem ucompare_any (a b : Nat) (w : World) : Calls Try.prog 92 #[.int .u64 (a : Int), .int .u64 (b : Int)] w fun e w' => e = .returned (.int .i64 (cmpW a b)) ∧ w = w' := by
  have HN := Lib.hid (fun (x : Int) (u : World) => uisnan_any x u)
  by_cases h1 : a < b
  · have HV : Hid (cmpW a b = -1) := Lib.hid (if_pos h1)
    have e1 : decide (a < b) = true := decide_eq_true h1
    go_enter Try.func92, Try.ntmps92
    go_wp2_with fail
    refine (HN.out _ _).mono ?_
    rintro e w' ⟨rfl, rfl⟩
    go_wp2_with fail
    refine (HN.out _ _).mono ?_
    rintro e w' ⟨rfl, rfl⟩
    go_wp2
    go_ret
    exact ⟨retI HV.out.symm, rfl⟩
  · have e1 : decide (a < b) = false := decide_eq_false h1
    by_cases h2 : b < a
    · have HV : Hid (cmpW a b = 1) := Lib.hid (by unfold cmpW; rw [if_neg h1, if_pos h2])
      have e2 : decide (b < a) = true := decide_eq_true h2
      go_enter Try.func92, Try.ntmps92
      go_wp2_with fail
      refine (HN.out _ _).mono ?_
      rintro e w' ⟨rfl, rfl⟩
      go_wp2_with fail
      refine (HN.out _ _).mono ?_
      rintro e w' ⟨rfl, rfl⟩
      go_wp2
      go_ret
      exact ⟨retI HV.out.symm, rfl⟩
    · have HV : Hid (cmpW a b = 0) := Lib.hid (by unfold cmpW; rw [if_neg h1, if_neg h2])
      have e2 : decide (b < a) = false := decide_eq_false h2
      go_enter Try.func92, Try.ntmps92
      go_wp2_with fail
      refine (HN.out _ _).mono ?_
      rintro e w' ⟨rfl, rfl⟩
      go_wp2_with fail
      refine (HN.out _ _).mono ?_
      rintro e w' ⟨rfl, rfl⟩
      go_wp2
      go_ret
      exact ⟨retI HV.out.symm, rfl⟩

set_option maxRecDepth 100000 in
set_option maxHeartbeats 4000000 in
theorem byfresh_any (A : Option Addr) (n c h l x o : Nat) (f : Bool) (A' : Option Addr) (n' c' h' l' x' o' : Nat) (f' : Bool) (w : World) : Calls Try.prog 64 #[.agg (agE A n c h l x o f), .agg (agE A' n' c' h' l' x' o' f')] w (Says (.int .i64 (cmpF f f')) w) := by
  obtain ⟨K0, K1, GB⟩ := blks2 w 47 47 (agE A n c h l x o f) (agE A' n' c' h' l' x' o' f')
  have HG := Lib.hid (Gr.two w (.cells (agE A n c h l x o f) 47) (.cells (agE A' n' c' h' l' x' o' f') 47))
  unfold agE at *
  have z5 := K0.cell 5
  have y5 := K1.cell 5
  clear K0 K1 GB
  cases f <;> cases f'
  all_goals
    go_enter Try.func64, Try.ntmps64
    go_wp2_with fail
    go_ret
    exact ⟨rfl, HG.out⟩

set_option maxRecDepth 100000 in
set_option maxHeartbeats 4000000 in
theorem bytime_any (A : Option Addr) (n c h l x o : Nat) (f : Bool) (A' : Option Addr) (n' c' h' l' x' o' : Nat) (f' : Bool) (w : World) (hh : h < 2 ^ 64) (hl : l < 2 ^ 64) (hx : x < 2 ^ 64) (hh' : h' < 2 ^ 64) (hl' : l' < 2 ^ 64) (hx' : x' < 2 ^ 64) :
    Calls Try.prog 65 #[.agg (agE A n c h l x o f), .agg (agE A' n' c' h' l' x' o' f')] w (Says (.int .i64 (cmpT (h, l, x) (h', l', x'))) w) := by
  have HC := Lib.hid (fun u => cmp_grown h l x h' l' x' u hh hl hx hh' hl' hx')
  have HV : Hid (cmpT (h, l, x) (h', l', x') = cmpR (h * 2 ^ 64 + l) x (h' * 2 ^ 64 + l') x') := Lib.hid rfl
  rw [HV.out]
  generalize cmpR (h * 2 ^ 64 + l) x (h' * 2 ^ 64 + l') x' = r at HC ⊢
  clear HV hh hl hx hh' hl' hx'
  obtain ⟨K0, K1, GB⟩ := blks2 w 47 47 (agE A n c h l x o f) (agE A' n' c' h' l' x' o' f')
  have HG := Lib.hid (Gr.two w (.cells (agE A n c h l x o f) 47) (.cells (agE A' n' c' h' l' x' o' f') 47))
  unfold agE at *
  have z1 := K0.cell 1
  have y1 := K1.cell 1
  have z2 := K0.cell 2
  have y2 := K1.cell 2
  have z3 := K0.cell 3
  have y3 := K1.cell 3
  clear K0 K1 GB
  go_enter Try.func65, Try.ntmps65
  go_wp2_with fail
  refine (HC.out _).mono ?_
  rintro e w1 ⟨rfl, h9⟩
  have HG2 := Lib.hid (HG.out.then_ h9)
  clear h9
  go_wp2
  go_ret
  exact ⟨rfl, HG2.out⟩

set_option maxRecDepth 100000 in
set_option maxHeartbeats 4000000 in
theorem byorder_any (A : Option Addr) (n c h l x o : Nat) (f : Bool) (A' : Option Addr) (n' c' h' l' x' o' : Nat) (f' : Bool) (w : World) : Calls Try.prog 66 #[.agg (agE A n c h l x o f), .agg (agE A' n' c' h' l' x' o' f')] w (Says (.int .i64 (cmpW o o')) w) := by
  have HC := Lib.hid (fun u => ucompare_any o o' u)
  obtain ⟨K0, K1, GB⟩ := blks2 w 47 47 (agE A n c h l x o f) (agE A' n' c' h' l' x' o' f')
  have HG := Lib.hid (Gr.two w (.cells (agE A n c h l x o f) 47) (.cells (agE A' n' c' h' l' x' o' f') 47))
  unfold agE at *
  have z4 := K0.cell 4
  have y4 := K1.cell 4
  clear K0 K1 GB
  go_enter Try.func66, Try.ntmps66
  go_wp2_with fail
  refine (HC.out _).mono ?_
  rintro e w1 ⟨rfl, rfl⟩
  go_wp2
  go_ret
  exact ⟨rfl, HG.out⟩

/-- a row that has a first number -/
def Fst (w : World) (A : Option Addr) (n : Nat) (i : Int) : Prop := 0 < n ∧ ∃ ad, A = some ad ∧ ad.block < w.heap.size ∧ w.cell? ad = some (.int .i64 i)
theorem Fst.gr {w w' : World} {A : Option Addr} {n : Nat} {i : Int} (h : Fst w A n i) (g : Gr w w') : Fst w' A n i := by
  obtain ⟨h0, ad, e, hb, hc⟩ := h
  exact ⟨h0, ad, e, Nat.lt_of_lt_of_le hb g.size, (g.cell hb).trans hc⟩

set_option maxRecDepth 100000 in
set_option maxHeartbeats 4000000 in
theorem bymember_any (A : Option Addr) (n c h l x o : Nat) (f : Bool) (A' : Option Addr) (n' c' h' l' x' o' : Nat) (f' : Bool) (i i' : Int) (w : World) (hF : Fst w A n i) (hF' : Fst w A' n' i') : Calls Try.prog 67 #[.agg (agE A n c h l x o f), .agg (agE A' n' c' h' l' x' o' f')] w (Says (.int .i64 (cmpY i i')) w) := by
  have HC := Lib.hid (fun u => icompare_any i i' u)
  obtain ⟨K0, K1, GB⟩ := blks2 w 47 47 (agE A n c h l x o f) (agE A' n' c' h' l' x' o' f')
  have HG := Lib.hid (Gr.two w (.cells (agE A n c h l x o f) 47) (.cells (agE A' n' c' h' l' x' o' f') 47))
  unfold agE at *
  obtain ⟨h0, ad, rfl, hb, hc⟩ := hF.gr HG.out
  obtain ⟨h0', ad', rfl, hb', hc'⟩ := hF'.gr HG.out
  have e1 : (0 : Int) < (n : Int) := by omega
  have e2 : (0 : Int) < (n' : Int) := by omega
  have e3 : ¬ n = 0 := by omega
  have e4 : ¬ n' = 0 := by omega
  have z0 := K0.cell 0
  have y0 := K1.cell 0
  clear K0 K1 GB hF hF' hb hb'
  go_enter Try.func67, Try.ntmps67
  go_wp2_with fail
  go_quiet ((go_at_call 93; exact (HC.out _).mono fun _ _ h => ⟨h.1, _, h.2.symm⟩))
  go_wp2_with fail
  go_ret
  exact ⟨rfl, Dw.below_drewN HG.out _⟩

end Go.Proofs.Ytngbamoffjlodaa
/-
  The landed chain of comparisons, and standing. No statement is proved here.
-/
namespace Go.Proofs.Ytngbamoffjlodaa
open Go.RowKit

/-- the four comparisons lie in block g2, their slice in block g -/
structure CH (w : World) (g g2 : Nat) : Prop where
  box : Blk w g 135 #[.slice (some ⟨g2, 0, none⟩) 4 4]
  row : Blk w g2 83 #[.func (.func 64) #[] #[], .func (.func 65) #[] #[], .func (.func 66) #[] #[], .func (.func 67) #[] #[]]
theorem CH.gr {w w' : World} {g g2 : Nat} (h : CH w g g2) (k : Gr w w') : CH w' g g2 := ⟨(k.block g h.box.lt).trans h.box, (k.block g2 h.row.lt).trans h.row⟩
theorem Blk.gr {w w' : World} {g : Nat} {t : TypeId} {cs : Array Value} (h : Blk w g t cs) (k : Gr w w') : Blk w' g t cs := (k.block g h.lt).trans h
def pre0 (c0 c1 c2 c3 : Int) (k : Nat) : Prop := (1 ≤ k → c0 = 0) ∧ (2 ≤ k → c1 = 0) ∧ (3 ≤ k → c2 = 0) ∧ (4 ≤ k → c3 = 0)
theorem lex_at0 {c0 c1 c2 c3 : Int} (h : c0 ≠ 0) : lex c0 (lex c1 (lex c2 c3)) = c0 := if_pos h
theorem lex_at1 {c0 c1 c2 c3 : Int} (h : pre0 c0 c1 c2 c3 1) (h1 : c1 ≠ 0) : lex c0 (lex c1 (lex c2 c3)) = c1 := by rw [lex_zero (h.1 (by omega))]; exact if_pos h1
theorem lex_at2 {c0 c1 c2 c3 : Int} (h : pre0 c0 c1 c2 c3 2) (h1 : c2 ≠ 0) : lex c0 (lex c1 (lex c2 c3)) = c2 := by rw [lex_zero (h.1 (by omega)), lex_zero (h.2.1 (by omega))]; exact if_pos h1
theorem lex_at3 {c0 c1 c2 c3 : Int} (h : pre0 c0 c1 c2 c3 3) : lex c0 (lex c1 (lex c2 c3)) = c3 := by rw [lex_zero (h.1 (by omega)), lex_zero (h.2.1 (by omega)), lex_zero (h.2.2.1 (by omega))]

set_option maxRecDepth 100000 in
set_option maxHeartbeats 8000000 in
theorem chained_any (A : Option Addr) (n c h l x o : Nat) (f : Bool) (A' : Option Addr) (n' c' h' l' x' o' : Nat) (f' : Bool) (g g2 : Nat) (c0 c1 c2 c3 : Int) (w : World) (hC : CH w g g2)
    (h0k : ∀ u, Gr w u → Calls Try.prog 64 #[.agg (agE A n c h l x o f), .agg (agE A' n' c' h' l' x' o' f')] u (Says (.int .i64 c0) u)) (h1k : ∀ u, Gr w u → Calls Try.prog 65 #[.agg (agE A n c h l x o f), .agg (agE A' n' c' h' l' x' o' f')] u (Says (.int .i64 c1) u)) (h2k : ∀ u, Gr w u → Calls Try.prog 66 #[.agg (agE A n c h l x o f), .agg (agE A' n' c' h' l' x' o' f')] u (Says (.int .i64 c2) u)) (h3k : ∀ u, Gr w u → Calls Try.prog 67 #[.agg (agE A n c h l x o f), .agg (agE A' n' c' h' l' x' o' f')] u (Says (.int .i64 c3) u)) :
    Calls Try.prog 91 (#[.agg (agE A n c h l x o f), .agg (agE A' n' c' h' l' x' o' f')] ++ #[.pointer (some ⟨g, 0, none⟩)]) w (Says (.int .i64 (lex c0 (lex c1 (lex c2 c3)))) w) := by
  obtain ⟨K0, K1, GB⟩ := blks2 w 47 47 (agE A n c h l x o f) (agE A' n' c' h' l' x' o' f')
  have HG := Lib.hid (Gr.two w (.cells (agE A n c h l x o f) 47) (.cells (agE A' n' c' h' l' x' o' f') 47))
  have H0 := Lib.hid h0k
  have H1 := Lib.hid h1k
  have H2 := Lib.hid h2k
  have H3 := Lib.hid h3k
  have HC := Lib.hid hC
  obtain ⟨r, hr⟩ : ∃ r, lex c0 (lex c1 (lex c2 c3)) = r := ⟨_, rfl⟩
  rw [hr]
  have HR := Lib.hid hr
  clear hr h0k h1k h2k h3k hC
  unfold agE at *
  have b0 := (HC.out.gr HG.out).box.cell 0
  have HK := Lib.hid (And.intro K0 K1)
  clear K0 K1 GB
  go_enter Try.func91, Try.ntmps91
  go_wp2_with fail
  clear b0
  generalize hV : (w.alloc _).alloc _ = V at HG HK ⊢
  clear hV
  go_loopw [11] (fun iv wr => ∃ k : Nat, k ≤ 4 ∧ iv = .int .i64 (k : Int) ∧ Hid (pre0 c0 c1 c2 c3 k) ∧ Hid (Gr V wr)) (fun iv _ => 4 - (intOf iv).toNat)
  case atStart => exact ⟨0, by omega, rfl, Lib.hid ⟨by omega, by omega, by omega, by omega⟩, Lib.hid (Dw.Below.refl _ _)⟩
  case round =>
    obtain ⟨k, hk, rfl, HP, HV⟩ := hrel
    have KK := And.intro (HK.out.1.gr HV.out) (HK.out.2.gr HV.out)
    have CC := HC.out.gr (HG.out.then_ HV.out)
    have HGV := Lib.hid (HG.out.then_ HV.out)
    have z0 := KK.1.cell 0
    have y0 := KK.2.cell 0
    have z1 := KK.1.cell 1
    have y1 := KK.2.cell 1
    have z2 := KK.1.cell 2
    have y2 := KK.2.cell 2
    have z3 := KK.1.cell 3
    have y3 := KK.2.cell 3
    have z4 := KK.1.cell 4
    have y4 := KK.2.cell 4
    have z5 := KK.1.cell 5
    have y5 := KK.2.cell 5
    obtain rfl | rfl | rfl | rfl | rfl : k = 0 ∨ k = 1 ∨ k = 2 ∨ k = 3 ∨ k = 4 := by omega
    · have r0 := CC.row.cell 0
      clear CC KK hk
      by_cases hc : c0 = 0
      · have d1 : (c0 == 0) = true := by simpa using hc
        have d2 : (c0 != 0) = false := by simp [hc]
        have HN : Hid (pre0 c0 c1 c2 c3 1) := Lib.hid (by have q := HP.out; unfold pre0 at q ⊢; omega)
        have HC0 := Lib.hid hc
        clear hc
        go_wp2_with fail
        refine (H0.out _ HGV.out).mono ?_
        rintro e w2 ⟨rfl, h9⟩
        have HV2 := Lib.hid (HV.out.then_ h9)
        clear h9 r0 z0 y0 z1 y1 z2 y2 z3 y3 z4 y4 z5 y5
        go_wp2
        go_roundw
        case rel => exact ⟨1, by omega, rfl, HN, HV2⟩
        case measure => simp [intOf]
      · have d1 : (c0 == 0) = false := by simpa using hc
        have d2 : (c0 != 0) = true := by simpa using hc
        have HE : Hid (r = c0) := Lib.hid (HR.out.symm.trans (lex_at0 hc))
        clear hc
        go_wp2_with fail
        refine (H0.out _ HGV.out).mono ?_
        rintro e w2 ⟨rfl, h9⟩
        have HV2 := Lib.hid (HGV.out.then_ h9)
        clear h9 r0 z0 y0 z1 y1 z2 y2 z3 y3 z4 y4 z5 y5
        go_wp2
        go_ret
        exact ⟨retI HE.out.symm, HV2.out⟩
    · have r1 := CC.row.cell 1
      clear CC KK hk
      by_cases hc : c1 = 0
      · have d1 : (c1 == 0) = true := by simpa using hc
        have d2 : (c1 != 0) = false := by simp [hc]
        have HN : Hid (pre0 c0 c1 c2 c3 2) := Lib.hid (by have q := HP.out; unfold pre0 at q ⊢; omega)
        have HC0 := Lib.hid hc
        clear hc
        go_wp2_with fail
        refine (H1.out _ HGV.out).mono ?_
        rintro e w2 ⟨rfl, h9⟩
        have HV2 := Lib.hid (HV.out.then_ h9)
        clear h9 r1 z0 y0 z1 y1 z2 y2 z3 y3 z4 y4 z5 y5
        go_wp2
        go_roundw
        case rel => exact ⟨2, by omega, rfl, HN, HV2⟩
        case measure => simp [intOf]
      · have d1 : (c1 == 0) = false := by simpa using hc
        have d2 : (c1 != 0) = true := by simpa using hc
        have HE : Hid (r = c1) := Lib.hid (HR.out.symm.trans (lex_at1 HP.out hc))
        clear hc
        go_wp2_with fail
        refine (H1.out _ HGV.out).mono ?_
        rintro e w2 ⟨rfl, h9⟩
        have HV2 := Lib.hid (HGV.out.then_ h9)
        clear h9 r1 z0 y0 z1 y1 z2 y2 z3 y3 z4 y4 z5 y5
        go_wp2
        go_ret
        exact ⟨retI HE.out.symm, HV2.out⟩
    · have r2 := CC.row.cell 2
      clear CC KK hk
      by_cases hc : c2 = 0
      · have d1 : (c2 == 0) = true := by simpa using hc
        have d2 : (c2 != 0) = false := by simp [hc]
        have HN : Hid (pre0 c0 c1 c2 c3 3) := Lib.hid (by have q := HP.out; unfold pre0 at q ⊢; omega)
        have HC0 := Lib.hid hc
        clear hc
        go_wp2_with fail
        refine (H2.out _ HGV.out).mono ?_
        rintro e w2 ⟨rfl, h9⟩
        have HV2 := Lib.hid (HV.out.then_ h9)
        clear h9 r2 z0 y0 z1 y1 z2 y2 z3 y3 z4 y4 z5 y5
        go_wp2
        go_roundw
        case rel => exact ⟨3, by omega, rfl, HN, HV2⟩
        case measure => simp [intOf]
      · have d1 : (c2 == 0) = false := by simpa using hc
        have d2 : (c2 != 0) = true := by simpa using hc
        have HE : Hid (r = c2) := Lib.hid (HR.out.symm.trans (lex_at2 HP.out hc))
        clear hc
        go_wp2_with fail
        refine (H2.out _ HGV.out).mono ?_
        rintro e w2 ⟨rfl, h9⟩
        have HV2 := Lib.hid (HGV.out.then_ h9)
        clear h9 r2 z0 y0 z1 y1 z2 y2 z3 y3 z4 y4 z5 y5
        go_wp2
        go_ret
        exact ⟨retI HE.out.symm, HV2.out⟩
    · have r3 := CC.row.cell 3
      clear CC KK hk
      by_cases hc : c3 = 0
      · have d1 : (c3 == 0) = true := by simpa using hc
        have d2 : (c3 != 0) = false := by simp [hc]
        have HN : Hid (pre0 c0 c1 c2 c3 4) := Lib.hid (by have q := HP.out; unfold pre0 at q ⊢; omega)
        have HC0 := Lib.hid hc
        clear hc
        go_wp2_with fail
        refine (H3.out _ HGV.out).mono ?_
        rintro e w2 ⟨rfl, h9⟩
        have HV2 := Lib.hid (HV.out.then_ h9)
        clear h9 r3 z0 y0 z1 y1 z2 y2 z3 y3 z4 y4 z5 y5
        go_wp2
        go_roundw
        case rel => exact ⟨4, by omega, rfl, HN, HV2⟩
        case measure => simp [intOf]
      · have d1 : (c3 == 0) = false := by simpa using hc
        have d2 : (c3 != 0) = true := by simpa using hc
        have HE : Hid (r = c3) := Lib.hid (HR.out.symm.trans (lex_at3 HP.out))
        clear hc
        go_wp2_with fail
        refine (H3.out _ HGV.out).mono ?_
        rintro e w2 ⟨rfl, h9⟩
        have HV2 := Lib.hid (HGV.out.then_ h9)
        clear h9 r3 z0 y0 z1 y1 z2 y2 z3 y3 z4 y4 z5 y5
        go_wp2
        go_ret
        exact ⟨retI HE.out.symm, HV2.out⟩
    · have HE : Hid (r = 0) := Lib.hid (HR.out.symm.trans ((lex_at3 (by have q := HP.out; unfold pre0 at q ⊢; omega)).trans (HP.out.2.2.2 (by omega))))
      clear CC KK hk z0 y0 z1 y1 z2 y2 z3 y3 z4 y4 z5 y5
      go_wp2
      go_ret
      exact ⟨retI HE.out.symm, HGV.out⟩

set_option maxRecDepth 100000 in
set_option maxHeartbeats 4000000 in
theorem standing_any (w : World) : Calls Try.prog 41 #[] w fun e w' => ∃ g g2, e = .returned (.func (.func 91) #[] #[.pointer (some ⟨g, 0, none⟩)]) ∧ CH w' g g2 ∧ Gr w w' ∧ w.heap.size ≤ g ∧ w.heap.size ≤ g2 := by
  have HCh : Hid (∀ (A : Option Addr) (n c : Nat) (u : World), Calls Try.prog 63 #[.slice A n c] u fun e w' => e = .returned (.func (.func 91) #[] #[.pointer (some ⟨u.heap.size, 0, none⟩)]) ∧ w' = u.alloc (.cells #[.slice A n c] 135)) := Lib.hid (fun A n c u => by
    go_enter Try.func63, Try.ntmps63
    go_wp2_with fail
    go_ret
    exact ⟨rfl, rfl⟩)
  have K0 := Blk.new w 83 #[.func (.func 64) #[] #[], .func (.func 65) #[] #[], .func (.func 66) #[] #[], .func (.func 67) #[] #[]]
  have HK := Lib.hid (And.intro K0 (Gr.two w (.cells #[.func (.func 64) #[] #[], .func (.func 65) #[] #[], .func (.func 66) #[] #[], .func (.func 67) #[] #[]] 83) (.cells #[.slice (some ⟨w.heap.size, 0, none⟩) 4 4] 135)))
  clear K0
  go_enter Try.func41, Try.ntmps41
  go_wp2_with fail
  refine (HCh.out _ _ _ _).mono ?_
  rintro e w1 ⟨rfl, rfl⟩
  go_wp2
  go_ret
  have hz : (w.alloc (.cells #[.func (.func 64) #[] #[], .func (.func 65) #[] #[], .func (.func 66) #[] #[], .func (.func 67) #[] #[]] 83)).heap.size = w.heap.size + 1 := by simp
  have K1 := Blk.new (w.alloc (.cells #[.func (.func 64) #[] #[], .func (.func 65) #[] #[], .func (.func 66) #[] #[], .func (.func 67) #[] #[]] 83)) 135 #[.slice (some ⟨w.heap.size, 0, none⟩) 4 4]
  rw [hz] at K1
  exact ⟨_, _, rfl, ⟨K1, HK.out.1.alloc _⟩, HK.out.2, by omega, Nat.le_refl _⟩

end Go.Proofs.Ytngbamoffjlodaa
