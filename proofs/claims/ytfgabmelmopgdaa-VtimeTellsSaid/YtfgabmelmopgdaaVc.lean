/-
  The landed vtime: times, greatest, lifted, held, Top. No statement is proved here.
-/
import Derived.Test.YtfgabmelmopgdaaVb
namespace Go.Proofs.Ytfgabmelmopgdaa
open Go.RowKit

theorem frac_info : (Try.prog.info? 36).map (fun i => (i.zero, i.size, i.bytes)) = some (some (.agg #[.int .u64 0, .int .u64 0, .int .u64 0]), 3, 24) := by kernel_rfl
theorem own_set {w : World} {base n size : Nat} {e : TypeId} {v : Value} {xs : List Value} (h : w.ownsRow base e size v n xs) {g : Nat} (hg : g < base) (i : Nat) (u : Value) : (w.setCell ⟨g, i, none⟩ u).ownsRow base e size v n xs := by
  refine h.kept (row := some g) ⟨rfl, rfl, rfl, by simp [World.setCell], fun k _ hne => Below.heap_setCell w _ u k (fun he => hne (by rw [he]))⟩ ?_
  cases ho : v.ownBlock with
  | none => exact .inl rfl
  | some k =>
    refine .inr (fun he => ?_)
    have := (h.lt k ho).1
    injection he with he
    omega
theorem own_down {w : World} {base base' n size : Nat} {e : TypeId} {v : Value} {xs : List Value} (h : w.ownsRow base e size v n xs) (hb : base' ≤ base) : w.ownsRow base' e size v n xs := by
  rcases h with ⟨h1, h2 | ⟨g, cap, cur, a, b, c⟩⟩
  · exact ⟨h1, .inl h2⟩
  · exact ⟨h1, .inr ⟨g, cap, cur, a, Nat.le_trans hb b, c⟩⟩
theorem own_below {w w' : World} {base n size : Nat} {e : TypeId} {v : Value} {xs : List Value} (h : w.ownsRow base e size v n xs) (hb : Below w.heap.size w w') : w'.ownsRow base e size v n xs := by
  rcases h with ⟨h1, h2 | ⟨g, cap, cur, a, b, c, r⟩⟩
  · exact ⟨h1, .inl h2⟩
  · exact ⟨h1, .inr ⟨g, cap, cur, a, b, (hb.block g (Array.getElem?_eq_some_iff.1 c).1).trans c, r⟩⟩
theorem own_off {w : World} {base n size g : Nat} {e : TypeId} {v : Value} {xs : List Value} (h : w.ownsRow base e size v n xs) (hne : ∀ k, v.ownBlock = some k → k ≠ g) (i : Nat) (u : Value) : (w.setCell ⟨g, i, none⟩ u).ownsRow base e size v n xs := by
  refine h.kept (row := some g) ⟨rfl, rfl, rfl, by simp [World.setCell], fun k _ hk => Below.heap_setCell w _ u k (fun he => hk (by rw [he]))⟩ ?_
  cases ho : v.ownBlock with
  | none => exact .inl rfl
  | some k => exact .inr (fun he => hne k ho (by injection he))
theorem reads_int1 (w : World) (t : TypeId) (x : Int) {g : Nat} (hg : g = w.heap.size) : Reads (w.alloc (.cells #[.int .i64 x] t)) (w.alloc (.cells #[.int .i64 x] t)).heap.size 1 (some ⟨g, 0, none⟩) 1 (vs [x]) := by
  subst hg
  refine ⟨rfl, fun _ => ⟨_, rfl, by simp, fun j u hu => ?_⟩⟩
  have hb := Blk.new w t #[.int .i64 x]
  match j, hu with
  | 0, hu => simp [vs] at hu; subst hu; exact hb.cell 0
  | j + 1, hu => simp [vs] at hu

theorem reads_frac1 (w : World) (h l x : Nat) {g : Nat} (hg : g = w.heap.size) : Reads (w.alloc (.cells #[.int .u64 (h : Int), .int .u64 (l : Int), .int .u64 (x : Int)] 36)) (w.alloc (.cells #[.int .u64 (h : Int), .int .u64 (l : Int), .int .u64 (x : Int)] 36)).heap.size 3 (some ⟨g, 0, none⟩) 1 (fvs [(h, l, x)]) := by
  subst hg
  refine ⟨rfl, fun _ => ⟨_, rfl, by simp, fun j u hj => ?_⟩⟩
  rw [Addr.add_lit, Nat.zero_add, (Blk.new w _ _).cell j]
  simpa [fvs, f3v] using hj

set_option maxRecDepth 100000 in
set_option maxHeartbeats 4000000 in
theorem times_any (A : Option Addr) (n c : Nat) (qs : List Rn) (w : World) (hG : QR w A n c qs) : Calls Try.prog 36 #[.agg #[.slice A n c]] w fun e w' => ∃ A' c', e = .returned (.slice A' n c') ∧ w'.ownsRow (w.heap.size + 1) 36 3 (.slice A' n c') n (fvs (tms qs)) ∧ Below w.heap.size w w' := by
  obtain ⟨i0, hi0, hz0, hz1, hz2⟩ := info_parts9 frac_info
  have HK := Lib.hid (box1 w 26 #[.slice A n c])
  have HG := Lib.hid hG
  have HL := Lib.hid hG.len
  have n9 := hG.small
  have k0 := HK.out.1.cell 0
  clear hG
  go_enter Try.func36, Try.ntmps36
  go_wp2_with fail
  clear k0
  go_loopw [3, 9] (fun s i wr => ∃ k : Nat, k ≤ n ∧ i = .int .i64 (k : Int) ∧ Hid (wr.ownsRow (w.heap.size + 1) 36 3 s k (fvs ((tms qs).take k))) ∧ Below w.heap.size w wr ∧ w.heap.size + 1 ≤ wr.heap.size) (fun _ i _ => n - (intOf i).toNat)
  case atStart => exact ⟨0, Nat.zero_le _, rfl, Lib.hid (World.ownsRow_nil _ _ _ _), HK.out.2, by simp⟩
  case round =>
    clear HK
    obtain ⟨k, hk, rfl, HO, GB, hz⟩ := hrel
    by_cases hlt : k < n
    · obtain ⟨⟨a, b, h, l, x⟩, hx⟩ := elem_at (l := qs) (k := k) (by rw [HL.out]; exact hlt)
      obtain ⟨ad, rfl, hb, c0, c1, c2, c3, c4⟩ := rn_at (HG.out.below GB).row hx
      obtain ⟨A2, cc, rfl, _, _⟩ := own_reads HO.out
      have HF : Hid (fvs ((tms qs).take k) ++ fvs [(h, l, x)] = fvs ((tms qs).take (k + 1))) := Lib.hid (by rw [← fvs_append, List.take_add_one, tms_at hx]; rfl)
      have j0 : (0 : Int) ≤ (k : Int) := by omega
      have j1 : (k : Int) < (n : Int) := by omega
      have KD := Blk.new wr 40 #[.int .i64 a, .int .i64 b, .int .u64 (h : Int), .int .u64 (l : Int), .int .u64 (x : Int)]
      have z2 := KD.cell 2
      have z3 := KD.cell 3
      have z4 := KD.cell 4
      have HS := Lib.hid (And.intro (HO.out.alloc (.cells #[.int .i64 a, .int .i64 b, .int .u64 (h : Int), .int .u64 (l : Int), .int .u64 (x : Int)] 40)) (GB.alloc GB.size (.cells #[.int .i64 a, .int .i64 b, .int .u64 (h : Int), .int .u64 (l : Int), .int .u64 (x : Int)] 40)))
      have HZ := Lib.hid hz
      clear hx GB hz KD
      go_wp2_with (
        at_builtin
        refine wpList_append_any _ rfl (.tmp 13) (.tmp 16) 74 rfl (w.heap.size + 1) 36 i0 (.agg #[.int .u64 0, .int .u64 0, .int .u64 0]) 3 24 Try.underlying74 hi0 hz0 hz1 hz2 rfl (by decide) (.slice A2 k cc) k (fvs ((tms qs).take k)) rfl (HS.out.1.alloc _) _ (some ⟨wr.heap.size + 1, 0, none⟩) 1 1 (fvs [(h, l, x)]) rfl (reads_frac1 _ h l x (by simp)) (fvs_ones _) (by simp only [maxLen]; omega) (by omega) (by have := HZ.out; simp; omega) ?_
        intro v9 w9 own9 grow9 _
        rw [HF.out] at own9
        have B9' := HS.out.2.alloc HS.out.2.size (.cells #[.int .u64 (h : Int), .int .u64 (l : Int), .int .u64 (x : Int)] 36)
        have HT := Lib.hid (And.intro own9 (And.intro (show Below w.heap.size w w9 from B9'.grown grow9 B9'.size (fun g hg => by have := (HS.out.1.lt g hg).1; omega)) (show w.heap.size + 1 ≤ w9.heap.size from Nat.le_trans (by have := HZ.out; simp; omega) grow9.size)))
        clear own9 grow9 B9')
      clear c0 c1 c2 c3 c4 z2 z3 z4
      go_wp2
      go_roundw
      case rel => exact ⟨k + 1, by omega, by go_num, Lib.hid HT.out.1, HT.out.2.1, HT.out.2.2⟩
      case measure => simp [intOf] <;> omega
    · obtain rfl : k = n := by omega
      have HT : Hid ((tms qs).take k = tms qs) := Lib.hid (by rw [← HL.out, ← len_tms]; exact List.take_length)
      obtain ⟨A2, cc, rfl, _, _⟩ := own_reads HO.out
      go_wp2
      go_ret
      exact ⟨A2, cc, rfl, by have := HO.out; rwa [HT.out] at this, GB⟩

def gT (l : List (Nat × Nat × Nat)) : (Nat × Nat × Nat) × Bool := if 0 < l.length ∧ allB l = true then (l.getD (topI l) (0, 0, 0), true) else ((0, 0, 0), false)
theorem topI_at {l : List (Nat × Nat × Nat)} (h0 : 0 < l.length) (ha : allB l = true) : ∃ p q x, l[topI l]? = some (p, q, x) := each_at (topK_top h0 (bF_pos ha)).1

set_option maxRecDepth 100000 in
set_option maxHeartbeats 2000000 in
theorem greatest_any (A : Option Addr) (n c : Nat) (l : List (Nat × Nat × Nat)) (w : World) (hl : l.length = n) (hn : n ≤ 100) (hs : Small l) (hr : Frow w w.heap.size A l) :
    Calls Try.prog 35 #[.slice A n c] w (Said (.tuple #[.agg (fr (gT l).1.1 (gT l).1.2.1 (gT l).1.2.2), .bool (gT l).2]) w) := by
  have HR := Lib.hid (fun (u : World) (h : Below w.heap.size w u) => (hr.below h (Nat.le_refl _)).more h.size)
  have K := Blk.new w 36 #[.int .u64 0, .int .u64 0, .int .u64 0]
  have GB := (Below.refl w.heap.size w).alloc (Nat.le_refl _) (.cells #[.int .u64 0, .int .u64 0, .int .u64 0] 36)
  unfold fr
  by_cases hg : 0 < l.length ∧ allB l = true
  · obtain ⟨p, q, x, hk⟩ := topI_at hg.1 hg.2
    have hlt := (List.getElem?_eq_some_iff.1 hk).1
    rw [show gT l = ((p, q, x), true) from by unfold gT; rw [if_pos hg, List.getD_eq_getElem?_getD, hk]; rfl]
    dsimp only
    have HM := Lib.hid (fun (u : World) (h : Below w.heap.size w u) => most_any A n c l u hl hn hs (HR.out u h) (topI l) true (found_some hg.1 hg.2))
    obtain ⟨k, hkk⟩ : ∃ k, topI l = k := ⟨_, rfl⟩
    rw [hkk] at hk hlt HM
    rw [hl] at hlt
    have HX := Lib.hid hk
    have j0 : (0 : Int) ≤ (k : Int) := by omega
    have j1 : (k : Int) < (n : Int) := by omega
    obtain ⟨ad, rfl, _⟩ := HR.out _ GB k p q x hk
    clear hk hkk hg hs hr hl
    go_enter Try.func35, Try.ntmps35
    go_wp2_with fail
    refine (HM.out _ GB).mono ?_
    rintro e w1 ⟨rfl, h9⟩
    replace K := K.below h9 K.lt
    replace GB := GB.trans (h9.mono GB.size)
    clear h9
    obtain ⟨ad', e', _, c0, c1, c2⟩ := HR.out _ GB k p q x HX.out
    injection e' with e'
    subst e'
    have d0 := K.cell 0
    have d1 := K.cell 1
    have d2 := K.cell 2
    have f0 := K.frozen 0
    have f1 := K.frozen 1
    have f2 := K.frozen 2
    have HP := Lib.hid (put3 (x := .int .u64 (p : Int)) (y := .int .u64 (q : Int)) (z := .int .u64 (x : Int)) K GB (by omega))
    clear K GB
    go_wp2_with fail
    exact bodyPost_ret (v := .tuple #[.agg #[.int .u64 (p : Int), .int .u64 (q : Int), .int .u64 (x : Int)], .bool true]) (results_cell_row_tmp Try.results35 _ _ _ _ _ _ rfl HP.out.1 Try.underlying36 rfl (by kernel_rfl)) rfl ⟨rfl, HP.out.2⟩
  · rw [show gT l = ((0, 0, 0), false) from if_neg hg]
    dsimp only
    have HM := Lib.hid (fun (u : World) (h : Below w.heap.size w u) => most_any A n c l u hl hn hs (HR.out u h) 0 false (.inr ⟨rfl, rfl, by
      rcases Nat.eq_zero_or_pos l.length with h | h
      · exact .inl h
      · refine .inr ?_
        cases ha : allB l with
        | false => rfl
        | true => exact absurd ⟨h, ha⟩ hg⟩))
    clear hg hs hr hl HR
    go_enter Try.func35, Try.ntmps35
    go_wp2_with fail
    refine (HM.out _ GB).mono ?_
    rintro e w1 ⟨rfl, h9⟩
    replace K := K.below h9 K.lt
    replace GB := GB.trans (h9.mono GB.size)
    clear h9
    have d0 := K.cell 0
    have d1 := K.cell 1
    have d2 := K.cell 2
    have f0 := K.frozen 0
    have f1 := K.frozen 1
    have f2 := K.frozen 2
    have HP := Lib.hid (put3 (x := .int .u64 0) (y := .int .u64 0) (z := .int .u64 0) K GB (by omega))
    clear K GB
    go_wp2_with fail
    exact bodyPost_ret (v := .tuple #[.agg #[.int .u64 0, .int .u64 0, .int .u64 0], .bool false]) (results_cell_row_tmp Try.results35 _ _ _ _ _ _ rfl HP.out.1 Try.underlying36 rfl (by kernel_rfl)) rfl ⟨rfl, HP.out.2⟩

theorem fe_parts (r : Nat × Nat × Int) : ∃ ph pl : Nat, fe r = .tuple #[.agg #[.int .u64 (ph : Int), .int .u64 (pl : Int), .int .u64 (r.2.1 : Int)], .int .i64 r.2.2] := ⟨_, _, rfl⟩
theorem over_call (h l x m : Nat) (u : World) (hh : h < 2 ^ 64) (hl : l < 2 ^ 64) (hx : x < 2 ^ 64) (hm : m < 2 ^ 64) : Calls Try.prog 85 #[.agg #[.int .u64 (h : Int), .int .u64 (l : Int), .int .u64 (x : Int)], .int .u64 (m : Int)] u (Said (fe (overR (h * 2 ^ 64 + l) x m)) u) := by
  have q := over_ok (h * 2 ^ 64 + l) x m u (by omega) hx hm
  rw [fq_of hl] at q
  exact q
def liftR (m : Nat) (l : List (Nat × Nat × Nat)) : Nat × Nat × Int := if (gT l).2 = true then overR (fN (gT l).1) (fW (gT l).1) m else ofR 0 m
theorem gT_small {l : List (Nat × Nat × Nat)} (hs : Small l) : (gT l).1.1 < 2 ^ 64 ∧ (gT l).1.2.1 < 2 ^ 64 ∧ (gT l).1.2.2 < 2 ^ 64 := by
  unfold gT
  split
  · rename_i hg
    obtain ⟨p, q, x, hk⟩ := topI_at hg.1 hg.2
    rw [List.getD_eq_getElem?_getD, hk]
    exact hs _ p q x hk
  · decide

set_option maxRecDepth 100000 in
set_option maxHeartbeats 2000000 in
theorem vlifted_any (m : Nat) (A : Option Addr) (n c : Nat) (l : List (Nat × Nat × Nat)) (w : World) (hm : m < 2 ^ 64) (hl : l.length = n) (hn : n ≤ 100) (hs : Small l) (hr : Frow w w.heap.size A l) :
    Calls Try.prog 55 #[.int .u64 (m : Int), .slice A n c] w (Said (fe (liftR m l)) w) := by
  have HGr := Lib.hid (fun (u : World) (h : Below w.heap.size w u) => greatest_any A n c l u hl hn hs ((hr.below h (Nat.le_refl _)).more h.size))
  have K := Blk.new w 36 #[.int .u64 0, .int .u64 0, .int .u64 0]
  have GB := (Below.refl w.heap.size w).alloc (Nat.le_refl _) (.cells #[.int .u64 0, .int .u64 0, .int .u64 0] 36)
  have hS := gT_small hs
  obtain ⟨ph, pl, ev⟩ := fe_parts (liftR m l)
  obtain ⟨rx, hrx⟩ : ∃ rx, (liftR m l).2.1 = rx := ⟨_, rfl⟩
  obtain ⟨re, hre⟩ : ∃ re, (liftR m l).2.2 = re := ⟨_, rfl⟩
  rw [hrx, hre] at ev
  rw [ev]
  unfold liftR at ev
  unfold fr at HGr
  obtain ⟨⟨p, q, x⟩, okb, hgt⟩ : ∃ f okb, gT l = (f, okb) := ⟨_, _, rfl⟩
  rw [hgt] at HGr ev hS
  dsimp only at HGr ev hS
  cases okb with
  | true =>
    rw [if_pos rfl] at ev
    have HO := Lib.hid (fun (u : World) => over_call p q x m u hS.1 hS.2.1 hS.2.2 hm)
    rw [show fN (p, q, x) = p * 2 ^ 64 + q from rfl, show fW (p, q, x) = x from rfl] at ev
    rw [ev] at HO
    clear ev hrx hre hgt hS hm hl hs hr hn
    go_enter Try.func55, Try.ntmps55
    go_wp2_with fail
    refine (HGr.out _ GB).mono ?_
    rintro e w1 ⟨rfl, h9⟩
    replace K := K.below h9 K.lt
    replace GB := GB.trans (h9.mono GB.size)
    clear h9
    have K1 := Blk.new w1 36 #[.int .u64 (p : Int), .int .u64 (q : Int), .int .u64 (x : Int)]
    replace K := K.alloc (.cells #[.int .u64 (p : Int), .int .u64 (q : Int), .int .u64 (x : Int)] 36)
    replace GB := GB.alloc GB.size (.cells #[.int .u64 (p : Int), .int .u64 (q : Int), .int .u64 (x : Int)] 36)
    have zK10 := K1.cell 0
    have zK11 := K1.cell 1
    have zK12 := K1.cell 2
    go_wp2_with fail
    refine (HO.out _).mono ?_
    rintro e w2 ⟨rfl, h9⟩
    replace K := K.below h9 K.lt
    replace K1 := K1.below h9 K1.lt
    replace GB := GB.trans (h9.mono GB.size)
    clear h9
    clear zK10 zK11 zK12
    clear K1
    have d0 := K.cell 0
    have d1 := K.cell 1
    have d2 := K.cell 2
    have f0 := K.frozen 0
    have f1 := K.frozen 1
    have f2 := K.frozen 2
    have HP := Lib.hid (put3 (x := .int .u64 (ph : Int)) (y := .int .u64 (pl : Int)) (z := .int .u64 (rx : Int)) K GB (by omega))
    clear K GB
    go_wp2_with fail
    exact bodyPost_ret (v := .tuple #[.agg #[.int .u64 (ph : Int), .int .u64 (pl : Int), .int .u64 (rx : Int)], .int .i64 re]) (results_cell_row_tmp Try.results55 _ _ _ _ _ _ rfl HP.out.1 Try.underlying36 rfl (by kernel_rfl)) rfl ⟨rfl, HP.out.2⟩
  | false =>
    rw [if_neg (by decide)] at ev
    have HO := Lib.hid (fun (u : World) => of_ok 0 m u (by omega) hm)
    rw [ev] at HO
    clear ev hrx hre hgt hS hm hl hs hr hn
    go_enter Try.func55, Try.ntmps55
    go_wp2_with fail
    refine (HGr.out _ GB).mono ?_
    rintro e w1 ⟨rfl, h9⟩
    replace K := K.below h9 K.lt
    replace GB := GB.trans (h9.mono GB.size)
    clear h9
    have K1 := Blk.new w1 36 #[.int .u64 (p : Int), .int .u64 (q : Int), .int .u64 (x : Int)]
    replace K := K.alloc (.cells #[.int .u64 (p : Int), .int .u64 (q : Int), .int .u64 (x : Int)] 36)
    replace GB := GB.alloc GB.size (.cells #[.int .u64 (p : Int), .int .u64 (q : Int), .int .u64 (x : Int)] 36)
    go_wp2_with fail
    refine (HO.out _).mono ?_
    rintro e w2 ⟨rfl, h9⟩
    replace K := K.below h9 K.lt
    replace K1 := K1.below h9 K1.lt
    replace GB := GB.trans (h9.mono GB.size)
    clear h9
    clear K1
    have d0 := K.cell 0
    have d1 := K.cell 1
    have d2 := K.cell 2
    have f0 := K.frozen 0
    have f1 := K.frozen 1
    have f2 := K.frozen 2
    have HP := Lib.hid (put3 (x := .int .u64 (ph : Int)) (y := .int .u64 (pl : Int)) (z := .int .u64 (rx : Int)) K GB (by omega))
    clear K GB
    go_wp2_with fail
    exact bodyPost_ret (v := .tuple #[.agg #[.int .u64 (ph : Int), .int .u64 (pl : Int), .int .u64 (rx : Int)], .int .i64 re]) (results_cell_row_tmp Try.results55 _ _ _ _ _ _ rfl HP.out.1 Try.underlying36 rfl (by kernel_rfl)) rfl ⟨rfl, HP.out.2⟩

theorem cmp_call (h l x h' l' x' : Nat) (u : World) (hh : h < 2 ^ 64) (hl : l < 2 ^ 64) (hx : x < 2 ^ 64) (hh' : h' < 2 ^ 64) (hl' : l' < 2 ^ 64) (hx' : x' < 2 ^ 64) :
    Calls Try.prog 23 #[.agg #[.int .u64 (h : Int), .int .u64 (l : Int), .int .u64 (x : Int)], .agg #[.int .u64 (h' : Int), .int .u64 (l' : Int), .int .u64 (x' : Int)]] u (Said (.int .i64 (cmpR (h * 2 ^ 64 + l) x (h' * 2 ^ 64 + l') x')) u) := by
  have q := compare_ok (h * 2 ^ 64 + l) x (h' * 2 ^ 64 + l') x' u (by omega) hx (by omega) hx'
  rw [fq_of hl, fq_of hl'] at q
  exact q
theorem cmp_one {N M x : Nat} (hN : rightN N x = true) (hM : rightN M x = true) : cmpR N x M x = cmpW N M := by
  have hx := (rightN_true hN).1
  unfold cmpR
  rw [hN, hM, Bool.and_true, if_pos rfl]
  rcases Nat.lt_trichotomy N M with h | h | h
  · rw [cmpW_lt h, cmpW_lt (Nat.mul_lt_mul_of_pos_right h hx)]
  · rw [cmpW_eq h, cmpW_eq (by rw [h])]
  · rw [cmpW_gt h, cmpW_gt (Nat.mul_lt_mul_of_pos_right h hx)]

set_option maxRecDepth 100000 in
set_option maxHeartbeats 4000000 in
theorem held_any (a b c d e f x : Nat) (w : World) (ha : a < 2 ^ 64) (hb : b < 2 ^ 64) (hc : c < 2 ^ 64) (hd : d < 2 ^ 64) (he : e < 2 ^ 64) (hf : f < 2 ^ 64) (h1 : rightN (a * 2 ^ 64 + b) x = true) (h2 : rightN (c * 2 ^ 64 + d) x = true) (h3 : rightN (e * 2 ^ 64 + f) x = true) :
    Calls Try.prog 48 #[.agg #[.int .u64 (a : Int), .int .u64 (b : Int), .int .u64 (x : Int)], .agg #[.int .u64 (c : Int), .int .u64 (d : Int), .int .u64 (x : Int)], .agg #[.int .u64 (e : Int), .int .u64 (f : Int), .int .u64 (x : Int)]] w (Said (.agg (fq (heldN (a * 2 ^ 64 + b) (c * 2 ^ 64 + d) (e * 2 ^ 64 + f)) x)) w) := by
  have hx : x < 2 ^ 64 := by have := rightN_true h1; omega
  obtain ⟨K0, K1, K2, K3, GB⟩ := blks4 w 36 36 36 36 #[.int .u64 (a : Int), .int .u64 (b : Int), .int .u64 (x : Int)] #[.int .u64 (c : Int), .int .u64 (d : Int), .int .u64 (x : Int)] #[.int .u64 (e : Int), .int .u64 (f : Int), .int .u64 (x : Int)] #[.int .u64 0, .int .u64 0, .int .u64 0]
  have HC := Lib.hid (fun (u : World) => cmp_call a b x c d x u ha hb hx hc hd hx)
  have HD := Lib.hid (fun (u : World) => cmp_call a b x e f x u ha hb hx he hf hx)
  rw [cmp_one h1 h2] at HC
  rw [cmp_one h1 h3] at HD
  obtain ⟨tn, htn⟩ : ∃ tn, a * 2 ^ 64 + b = tn := ⟨_, rfl⟩
  obtain ⟨ln, hln⟩ : ∃ ln, c * 2 ^ 64 + d = ln := ⟨_, rfl⟩
  obtain ⟨pn, hpn⟩ : ∃ pn, e * 2 ^ 64 + f = pn := ⟨_, rfl⟩
  rw [htn, hln] at HC
  rw [htn, hpn] at HD
  rw [htn, hln, hpn]
  obtain ⟨q1, hq1⟩ : ∃ q, cmpW tn ln = q := ⟨_, rfl⟩
  obtain ⟨q2, hq2⟩ : ∃ q, cmpW tn pn = q := ⟨_, rfl⟩
  have s1 : decide (q1 < 0) = decide (tn < ln) := by rw [← hq1, cmpW_minus]
  have s2 : decide (0 < q2) = decide (pn < tn) := by rw [← hq2, cmpW_pos]
  rw [hq1] at HC
  rw [hq2] at HD
  clear hq1 hq2 h1 h2 h3 hx
  by_cases g1 : tn < ln
  · rw [show heldN tn ln pn = ln from if_pos g1, ← hln, fq_of hd]
    rw [decide_eq_true g1] at s1
    unfold fr
    clear g1 s2 htn hln hpn ha hb hc hd he hf
    go_enter Try.func48, Try.ntmps48
    have zK00 := K0.cell 0
    have zK01 := K0.cell 1
    have zK02 := K0.cell 2
    have zK10 := K1.cell 0
    have zK11 := K1.cell 1
    have zK12 := K1.cell 2
    go_wp2_with fail
    refine (HC.out _).mono ?_
    rintro e w1 ⟨rfl, h9⟩
    replace K0 := K0.below h9 K0.lt
    replace K1 := K1.below h9 K1.lt
    replace K2 := K2.below h9 K2.lt
    replace K3 := K3.below h9 K3.lt
    replace GB := GB.trans (h9.mono GB.size)
    clear h9
    clear zK00 zK01 zK02 zK10 zK11 zK12
    have zK10 := K1.cell 0
    have zK11 := K1.cell 1
    have zK12 := K1.cell 2
    clear K0
    clear K1
    clear K2
    have d0 := K3.cell 0
    have d1 := K3.cell 1
    have d2 := K3.cell 2
    have f0 := K3.frozen 0
    have f1 := K3.frozen 1
    have f2 := K3.frozen 2
    have HP := Lib.hid (put3 (x := .int .u64 (c : Int)) (y := .int .u64 (d : Int)) (z := .int .u64 (x : Int)) K3 GB (by omega))
    clear K3 GB
    go_wp2_with fail
    exact bodyPost_ret (v := .agg #[.int .u64 (c : Int), .int .u64 (d : Int), .int .u64 (x : Int)]) (results_cell_row Try.results48 _ _ _ _ _ _ _ rfl HP.out.1 Try.underlying36 rfl (by kernel_rfl)) rfl ⟨rfl, HP.out.2⟩
  · rw [decide_eq_false g1] at s1
    by_cases g2 : pn < tn
    · rw [show heldN tn ln pn = pn from (if_neg g1).trans (if_pos g2), ← hpn, fq_of hf]
      rw [decide_eq_true g2] at s2
      unfold fr
      clear g1 g2 htn hln hpn ha hb hc hd he hf
      go_enter Try.func48, Try.ntmps48
      have zK00 := K0.cell 0
      have zK01 := K0.cell 1
      have zK02 := K0.cell 2
      have zK10 := K1.cell 0
      have zK11 := K1.cell 1
      have zK12 := K1.cell 2
      go_wp2_with fail
      refine (HC.out _).mono ?_
      rintro e w1 ⟨rfl, h9⟩
      replace K0 := K0.below h9 K0.lt
      replace K1 := K1.below h9 K1.lt
      replace K2 := K2.below h9 K2.lt
      replace K3 := K3.below h9 K3.lt
      replace GB := GB.trans (h9.mono GB.size)
      clear h9
      clear zK00 zK01 zK02 zK10 zK11 zK12
      have zK00 := K0.cell 0
      have zK01 := K0.cell 1
      have zK02 := K0.cell 2
      have zK20 := K2.cell 0
      have zK21 := K2.cell 1
      have zK22 := K2.cell 2
      go_wp2_with fail
      refine (HD.out _).mono ?_
      rintro e w2 ⟨rfl, h9⟩
      replace K0 := K0.below h9 K0.lt
      replace K1 := K1.below h9 K1.lt
      replace K2 := K2.below h9 K2.lt
      replace K3 := K3.below h9 K3.lt
      replace GB := GB.trans (h9.mono GB.size)
      clear h9
      clear zK00 zK01 zK02 zK20 zK21 zK22
      have zK20 := K2.cell 0
      have zK21 := K2.cell 1
      have zK22 := K2.cell 2
      clear K0
      clear K1
      clear K2
      have d0 := K3.cell 0
      have d1 := K3.cell 1
      have d2 := K3.cell 2
      have f0 := K3.frozen 0
      have f1 := K3.frozen 1
      have f2 := K3.frozen 2
      have HP := Lib.hid (put3 (x := .int .u64 (e : Int)) (y := .int .u64 (f : Int)) (z := .int .u64 (x : Int)) K3 GB (by omega))
      clear K3 GB
      go_wp2_with fail
      exact bodyPost_ret (v := .agg #[.int .u64 (e : Int), .int .u64 (f : Int), .int .u64 (x : Int)]) (results_cell_row Try.results48 _ _ _ _ _ _ _ rfl HP.out.1 Try.underlying36 rfl (by kernel_rfl)) rfl ⟨rfl, HP.out.2⟩
    · rw [show heldN tn ln pn = tn from (if_neg g1).trans (if_neg g2), ← htn, fq_of hb]
      rw [decide_eq_false g2] at s2
      unfold fr
      clear g1 g2 htn hln hpn ha hb hc hd he hf
      go_enter Try.func48, Try.ntmps48
      have zK00 := K0.cell 0
      have zK01 := K0.cell 1
      have zK02 := K0.cell 2
      have zK10 := K1.cell 0
      have zK11 := K1.cell 1
      have zK12 := K1.cell 2
      go_wp2_with fail
      refine (HC.out _).mono ?_
      rintro e w1 ⟨rfl, h9⟩
      replace K0 := K0.below h9 K0.lt
      replace K1 := K1.below h9 K1.lt
      replace K2 := K2.below h9 K2.lt
      replace K3 := K3.below h9 K3.lt
      replace GB := GB.trans (h9.mono GB.size)
      clear h9
      clear zK00 zK01 zK02 zK10 zK11 zK12
      have zK00 := K0.cell 0
      have zK01 := K0.cell 1
      have zK02 := K0.cell 2
      have zK20 := K2.cell 0
      have zK21 := K2.cell 1
      have zK22 := K2.cell 2
      go_wp2_with fail
      refine (HD.out _).mono ?_
      rintro e w2 ⟨rfl, h9⟩
      replace K0 := K0.below h9 K0.lt
      replace K1 := K1.below h9 K1.lt
      replace K2 := K2.below h9 K2.lt
      replace K3 := K3.below h9 K3.lt
      replace GB := GB.trans (h9.mono GB.size)
      clear h9
      clear zK00 zK01 zK02 zK20 zK21 zK22
      have zK00 := K0.cell 0
      have zK01 := K0.cell 1
      have zK02 := K0.cell 2
      clear K0
      clear K1
      clear K2
      have d0 := K3.cell 0
      have d1 := K3.cell 1
      have d2 := K3.cell 2
      have f0 := K3.frozen 0
      have f1 := K3.frozen 1
      have f2 := K3.frozen 2
      have HP := Lib.hid (put3 (x := .int .u64 (a : Int)) (y := .int .u64 (b : Int)) (z := .int .u64 (x : Int)) K3 GB (by omega))
      clear K3 GB
      go_wp2_with fail
      exact bodyPost_ret (v := .agg #[.int .u64 (a : Int), .int .u64 (b : Int), .int .u64 (x : Int)]) (results_cell_row Try.results48 _ _ _ _ _ _ _ rfl HP.out.1 Try.underlying36 rfl (by kernel_rfl)) rfl ⟨rfl, HP.out.2⟩

theorem gT_tms {qs : List Rn} (hU : UQ qs) (hr : rightQ qs = true) : gT (tms qs) = topQ qs := by
  have hR := rightQ_iff.1 hr
  unfold gT topQ
  by_cases h0 : 0 < qs.length
  · rw [if_pos ⟨by rw [len_tms]; exact h0, tms_right hU hR.each⟩, if_pos ⟨hr, h0⟩]
    rfl
  · rw [if_neg (fun h => h0 (by rw [len_tms] at h; exact h.1)), if_neg (fun h => h0 h.2)]

set_option maxRecDepth 100000 in
set_option maxHeartbeats 4000000 in
theorem top_any (A : Option Addr) (n c : Nat) (qs : List Rn) (w : World) (hG : QR w A n c qs) (hn : n ≤ 100) : Calls Try.prog 15 #[.agg #[.slice A n c]] w (Said (.tuple #[.agg (fr (topQ qs).1.1 (topQ qs).1.2.1 (topQ qs).1.2.2), .bool (topQ qs).2]) w) := by
  have HC := Lib.hid (fun (u : World) (h : Below w.heap.size w u) => qcheck_any A n c qs u (hG.below h))
  have HT := Lib.hid (fun (u : World) (h : Below w.heap.size w u) => times_any A n c qs u (hG.below h))
  obtain ⟨K0, K, GB⟩ := blks2 w 26 36 #[.slice A n c] #[.int .u64 0, .int .u64 0, .int .u64 0]
  have HL := Lib.hid hG.len
  have HU := Lib.hid hG.ur
  unfold fr
  cases hr : rightQ qs with
  | false =>
    rw [show chkQ qs = 200 from if_neg (by rw [hr]; decide)] at HC
    rw [show topQ qs = ((0, 0, 0), false) from if_neg (fun h => by rw [hr] at h; cases h.1)]
    dsimp only
    clear hG hr
    go_enter Try.func15, Try.ntmps15
    have zK00 := K0.cell 0
    go_wp2_with fail
    refine (HC.out _ GB).mono ?_
    rintro e w1 ⟨rfl, h9⟩
    replace K0 := K0.below h9 K0.lt
    replace K := K.below h9 K.lt
    replace GB := GB.trans (h9.mono GB.size)
    clear h9
    clear zK00
    clear K0
    have d0 := K.cell 0
    have d1 := K.cell 1
    have d2 := K.cell 2
    have f0 := K.frozen 0
    have f1 := K.frozen 1
    have f2 := K.frozen 2
    have HP := Lib.hid (put3 (x := .int .u64 0) (y := .int .u64 0) (z := .int .u64 0) K GB (by omega))
    clear K GB
    go_wp2_with fail
    exact bodyPost_ret (v := .tuple #[.agg #[.int .u64 0, .int .u64 0, .int .u64 0], .bool false]) (results_cell_row_tmp Try.results15 _ _ _ _ _ _ rfl HP.out.1 Try.underlying36 rfl (by kernel_rfl)) rfl ⟨rfl, HP.out.2⟩
  | true =>
    rw [show chkQ qs = 0 from if_pos hr] at HC
    rw [← gT_tms hG.ur hr]
    have HG := Lib.hid (fun (A' : Option Addr) (c' : Nat) (u : World) (h : u.ownsRow (w.heap.size + 1) 36 3 (.slice A' n c') n (fvs (tms qs))) => greatest_any A' n c' (tms qs) u (by rw [len_tms]; exact HL.out) hn (tms_small HU.out) (Reads.of_own h).frow)
    unfold fr at HG
    obtain ⟨⟨⟨p, q, x⟩, okb⟩, hgt⟩ : ∃ f, gT (tms qs) = f := ⟨_, rfl⟩
    rw [hgt] at HG ⊢
    dsimp only at HG ⊢
    have hz : w.heap.size + 1 ≤ ((w.alloc (.cells #[.slice A n c] 26)).alloc (.cells #[.int .u64 0, .int .u64 0, .int .u64 0] 36)).heap.size := by simp
    clear hG hr hgt
    go_enter Try.func15, Try.ntmps15
    have zK00 := K0.cell 0
    go_wp2_with fail
    refine (HC.out _ GB).mono ?_
    rintro e w1 ⟨rfl, h9⟩
    replace hz := Nat.le_trans hz h9.size
    replace K0 := K0.below h9 K0.lt
    replace K := K.below h9 K.lt
    replace GB := GB.trans (h9.mono GB.size)
    clear h9
    clear zK00
    have zK00 := K0.cell 0
    go_wp2_with fail
    refine (HT.out _ GB).mono ?_
    rintro e w2 ⟨A', c', rfl, oo, h9⟩
    replace K0 := K0.below h9 K0.lt
    replace K := K.below h9 K.lt
    replace GB := GB.trans (h9.mono GB.size)
    replace oo := own_down oo (show w.heap.size + 1 ≤ w1.heap.size + 1 by omega)
    clear h9 hz
    clear zK00
    go_wp2_with fail
    refine (HG.out _ _ _ oo).mono ?_
    rintro e w3 ⟨rfl, h9⟩
    clear oo
    replace K0 := K0.below h9 K0.lt
    replace K := K.below h9 K.lt
    replace GB := GB.trans (h9.mono GB.size)
    clear h9
    clear K0
    have d0 := K.cell 0
    have d1 := K.cell 1
    have d2 := K.cell 2
    have f0 := K.frozen 0
    have f1 := K.frozen 1
    have f2 := K.frozen 2
    have HP := Lib.hid (put3 (x := .int .u64 (p : Int)) (y := .int .u64 (q : Int)) (z := .int .u64 (x : Int)) K GB (by omega))
    clear K GB
    go_wp2_with fail
    exact bodyPost_ret (v := .tuple #[.agg #[.int .u64 (p : Int), .int .u64 (q : Int), .int .u64 (x : Int)], .bool okb]) (results_cell_row_tmp Try.results15 _ _ _ _ _ _ rfl HP.out.1 Try.underlying36 rfl (by kernel_rfl)) rfl ⟨rfl, HP.out.2⟩
end Go.Proofs.Ytfgabmelmopgdaa
