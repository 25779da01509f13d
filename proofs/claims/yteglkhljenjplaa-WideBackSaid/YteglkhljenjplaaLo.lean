/-
  The walk of the law on the order of wide numbers. No statement is proved here.
-/
import Derived.Test.YteglkhljenjplaaWo
namespace Go.Proofs.Yteglkhljenjplaa
open Go.RowKit

def num (h l : Nat) : Nat := h * 18446744073709551616 + l
theorem num_def (h l : Nat) : num h l = h * 18446744073709551616 + l := by unfold num; exact rfl
theorem cmpZ_num {ah al bh bl : Nat} (hal : al < 18446744073709551616) (hbl : bl < 18446744073709551616) :
    cmpZ (qf ah al) (qf bh bl) = if num ah al < num bh bl then -1 else if num bh bl < num ah al then 1 else 0 := by
  unfold cmpZ num
  simp only [qf]
  split
  · rw [if_pos (by omega)]
  · split
    · rw [if_neg (by omega), if_pos (by omega)]
    · split
      · rw [if_pos (by omega)]
      · split
        · rw [if_neg (by omega), if_pos (by omega)]
        · split
          · rw [if_pos (by omega)]
          · split
            · rw [if_neg (by omega), if_pos (by omega)]
            · split
              · rw [if_pos (by omega)]
              · split
                · rw [if_neg (by omega), if_pos (by omega)]
                · rw [if_neg (by omega), if_neg (by omega)]
/-- how two numbers compare -/
def cmpN (a b : Nat) : Int := if a < b then -1 else if b < a then 1 else 0
theorem compare_num (ah al bh bl : Nat) (r : Int) (hah : ah < 18446744073709551616) (hal : al < 18446744073709551616) (hbh : bh < 18446744073709551616) (hbl : bl < 18446744073709551616) (hr : cmpN (num ah al) (num bh bl) = r) (w : World) :
    Calls Try.prog 15 #[.agg #[.int .u64 (ah : Int), .int .u64 (al : Int)], .agg #[.int .u64 (bh : Int), .int .u64 (bl : Int)]] w (Ans (.int .i64 r) w) :=
  compare_any ah al bh bl r ((cmpZ_num hal hbl).trans hr) hah hal hbh hbl w
theorem cmpN_lt {a b : Nat} (h : a < b) : cmpN a b = -1 := if_pos h
theorem cmpN_gt {a b : Nat} (h : b < a) : cmpN a b = 1 := by unfold cmpN; rw [if_neg (by omega), if_pos h]
theorem cmpN_eq {a b : Nat} (h : a = b) : cmpN a b = 0 := by unfold cmpN; rw [if_neg (by omega), if_neg (by omega)]
theorem cmpN_cases (a b : Nat) : (a < b ∧ cmpN a b = -1) ∨ (a = b ∧ cmpN a b = 0) ∨ (b < a ∧ cmpN a b = 1) := by
  rcases Nat.lt_trichotomy a b with h | h | h
  · exact .inl ⟨h, cmpN_lt h⟩
  · exact .inr (.inl ⟨h, cmpN_eq h⟩)
  · exact .inr (.inr ⟨h, cmpN_gt h⟩)
theorem cmpN_le {a b : Nat} : cmpN a b ≤ 0 ↔ a ≤ b := by rcases cmpN_cases a b with ⟨h, e⟩ | ⟨h, e⟩ | ⟨h, e⟩ <;> rw [e] <;> omega
theorem cmpN_trans {a b c : Nat} (h1 : cmpN a b ≤ 0) (h2 : cmpN b c ≤ 0) : cmpN a c ≤ 0 := cmpN_le.2 (Nat.le_trans (cmpN_le.1 h1) (cmpN_le.1 h2))
theorem cmpN_swap (a b : Nat) : cmpN b a = -cmpN a b := by rcases cmpN_cases a b with ⟨h, e⟩ | ⟨h, e⟩ | ⟨h, e⟩ <;> rcases cmpN_cases b a with ⟨h', e'⟩ | ⟨h', e'⟩ | ⟨h', e'⟩ <;> rw [e, e'] <;> omega
theorem cmpN_add (a b c : Nat) : cmpN (a + c) (b + c) = cmpN a b := by rcases cmpN_cases a b with ⟨h, e⟩ | ⟨h, e⟩ | ⟨h, e⟩ <;> rcases cmpN_cases (a + c) (b + c) with ⟨h', e'⟩ | ⟨h', e'⟩ | ⟨h', e'⟩ <;> rw [e, e'] <;> omega

/-- three pairs of cells -/
def K6 (g : Nat) (a b c d e f : Value) (w : World) : Prop := w.cell? ⟨g, 0, none⟩ = some a ∧ w.cell? ⟨g, 1, none⟩ = some b ∧ w.cell? ⟨g + 1, 0, none⟩ = some c ∧ w.cell? ⟨g + 1, 1, none⟩ = some d ∧ w.cell? ⟨g + 1 + 1, 0, none⟩ = some e ∧ w.cell? ⟨g + 1 + 1, 1, none⟩ = some f
theorem K6.below {g : Nat} {a b c d e f : Value} {w w' : World} (h : K6 g a b c d e f w) (hb : Below w.heap.size w w') : K6 g a b c d e f w' := by
  obtain ⟨h1, h2, h3, h4, h5, h6⟩ := h
  have go : ∀ {p : Addr} {v : Value}, w.cell? p = some v → w'.cell? p = some v := fun h => (hb.cell (World.block_lt_of_cell? w _ h)).trans h
  exact ⟨go h1, go h2, go h3, go h4, go h5, go h6⟩
theorem K6.alloc {g : Nat} {a b c d e f : Value} {w : World} (h : K6 g a b c d e f w) (o : Obj) : K6 g a b c d e f (w.alloc o) := h.below ((Below.refl _ _).alloc (Nat.le_refl _) o)
theorem C2.alloc {g : Nat} {a b : Value} {w : World} (h : C2 g a b w) (o : Obj) : C2 g a b (w.alloc o) := h.below ((Below.refl _ _).alloc (Nat.le_refl _) o)
theorem K6.of {w : World} {t : TypeId} {a b c d e f : Value} : K6 w.heap.size a b c d e f (((w.alloc (.cells #[a, b] t)).alloc (.cells #[c, d] t)).alloc (.cells #[e, f] t)) := by
  obtain ⟨h1, h2, h3, _⟩ := blks3 w t t t #[a, b] #[c, d] #[e, f]
  exact ⟨h1.cell 0, h1.cell 1, h2.cell 0, h2.cell 1, h3.cell 0, h3.cell 1⟩

set_option maxHeartbeats 4000000 in
set_option maxRecDepth 100000 in
theorem order_walk (ah al bh bl ch cl : Nat) (hah : ah < 18446744073709551616) (hal : al < 18446744073709551616) (hbh : bh < 18446744073709551616) (hbl : bl < 18446744073709551616) (hch : ch < 18446744073709551616) (hcl : cl < 18446744073709551616) (w : World) :
    Calls Try.prog 8 #[.agg #[.int .u64 (ah : Int), .int .u64 (al : Int)], .agg #[.int .u64 (bh : Int), .int .u64 (bl : Int)], .agg #[.int .u64 (ch : Int), .int .u64 (cl : Int)]] w (Ans (.bool true) w) := by
  obtain ⟨x, hx⟩ : ∃ x, cmpN (num ah al) (num bh bl) = x := ⟨_, rfl⟩
  obtain ⟨y, hy⟩ : ∃ y, cmpN (num bh bl) (num ah al) = y := ⟨_, rfl⟩
  obtain ⟨z, hz⟩ : ∃ z, cmpN (num bh bl) (num ch cl) = z := ⟨_, rfl⟩
  obtain ⟨v, hv⟩ : ∃ v, cmpN (num ah al) (num ch cl) = v := ⟨_, rfl⟩
  have HAB := Lib.hid (fun u => compare_num ah al bh bl x hah hal hbh hbl hx u)
  have HBA := Lib.hid (fun u => compare_num bh bl ah al y hbh hbl hah hal hy u)
  have HBC := Lib.hid (fun u => compare_num bh bl ch cl z hbh hbl hch hcl hz u)
  have HAC := Lib.hid (fun u => compare_num ah al ch cl v hah hal hch hcl hv u)
  have HAA := Lib.hid (fun u => compare_num ah al ah al 0 hah hal hah hal (cmpN_eq rfl) u)
  have hyx : y = -x := by
    rw [← hx, ← hy]
    exact cmpN_swap _ _
  have hxe : x = 0 ↔ ah = bh ∧ al = bl := by
    rw [← hx]
    have : cmpN (num ah al) (num bh bl) = 0 ↔ num ah al = num bh bl := by rcases cmpN_cases (num ah al) (num bh bl) with ⟨h, e⟩ | ⟨h, e⟩ | ⟨h, e⟩ <;> rw [e] <;> omega
    rw [this]
    unfold num
    omega
  have hx1 : x = -1 ∨ x = 0 ∨ x = 1 := by rw [← hx]; rcases cmpN_cases (num ah al) (num bh bl) with ⟨h, e⟩ | ⟨h, e⟩ | ⟨h, e⟩ <;> rw [e] <;> omega
  have hle : x ≤ 0 → z ≤ 0 → ¬ 0 < v := fun h1 h2 => by
    rw [← hx] at h1
    rw [← hz] at h2
    rw [← hv]
    exact Int.not_lt.2 (cmpN_trans h1 h2)
  obtain ⟨sh, sl, c1, hs⟩ := Num.some (num ah al + num ch cl)
  obtain ⟨th, tl, c2, ht⟩ := Num.some (num bh bl + num ch cl)
  have hs' := hs
  have ht' := ht
  rw [num_def, num_def] at hs' ht'
  have HS := Lib.hid (fun u => add_num ah al ch cl sh sl c1 hal hcl hah hch hs' u)
  have HT := Lib.hid (fun u => add_num bh bl ch cl th tl c2 hbl hcl hbh hch ht' u)
  obtain ⟨t, htt⟩ : ∃ t, cmpN (num sh sl) (num th tl) = t := ⟨_, rfl⟩
  have HST := Lib.hid (fun u => compare_num sh sl th tl t hs.hi hs.lo ht.hi ht.lo htt u)
  have hst : c1 = 0 → c2 = 0 → t = x := fun h1 h2 => by
    rcases hs with ⟨_, e1, _, _⟩ | ⟨e1, _, _, _⟩
    · rcases ht with ⟨_, e2, _, _⟩ | ⟨e2, _, _, _⟩
      · rw [← htt, ← hx]
        have a1 : num sh sl = num ah al + num ch cl := (num_def sh sl).trans e1.symm
        have a2 : num th tl = num bh bl + num ch cl := (num_def th tl).trans e2.symm
        rw [a1, a2]
        exact cmpN_add _ _ _
      · omega
    · omega
  have hcc : (c1 = 0 ∨ c1 = 131) ∧ (c2 = 0 ∨ c2 = 131) := ⟨by rcases hs with ⟨h, _⟩ | ⟨h, _⟩ <;> simp [h], by rcases ht with ⟨h, _⟩ | ⟨h, _⟩ <;> simp [h]⟩
  have HX := Lib.hid (And.intro hyx (And.intro hxe (And.intro hx1 (And.intro hle (And.intro hst hcc)))))
  have B0 := (blks3 w 24 24 24 #[.int .u64 (ah : Int), .int .u64 (al : Int)] #[.int .u64 (bh : Int), .int .u64 (bl : Int)] #[.int .u64 (ch : Int), .int .u64 (cl : Int)]).2.2.2
  have k0 := K6.of (w := w) (t := 24) (a := .int .u64 (ah : Int)) (b := .int .u64 (al : Int)) (c := .int .u64 (bh : Int)) (d := .int .u64 (bl : Int)) (e := .int .u64 (ch : Int)) (f := .int .u64 (cl : Int))
  have HB := Lib.hid B0
  have HK := Lib.hid k0
  clear hs' ht' hah hal hbh hbl hch hcl hx hy hz hv hyx hxe hx1 hle hs ht htt hst hcc B0 k0
  go_enter Try.func8, Try.ntmps8
  go_wp2_with fail
  refine (wakes_any _).mono ?_
  rintro e w1 ⟨rfl, h1⟩
  have k1 := HK.out.below h1
  have B1 := HB.out.trans (h1.mono HB.out.size)
  clear HK HB h1
  go_upto_region 3 with fail
  go_cut [36] (fun s36 wx => s36 = .bool false ∧ K6 w.heap.size (.int .u64 (ah : Int)) (.int .u64 (al : Int)) (.int .u64 (bh : Int)) (.int .u64 (bl : Int)) (.int .u64 (ch : Int)) (.int .u64 (cl : Int)) wx ∧ Below w.heap.size w wx)
  case first =>
    have D1 := B1.drew
    have k1 : K6 _ _ _ _ _ _ _ w1.drew := k1
    have hyx := HX.out.1
    have hxe := HX.out.2.1
    have hx1 := HX.out.2.2.1
    clear HX
    have hneg : IntKind.i64.wrap (-y) = x := by rw [IntKind.wrap_i64, hyx]; omega
    by_cases h0 : x = 0
    · obtain ⟨rfl, rfl⟩ := hxe.1 h0
      have hxb : (x == 0) = true := by simp [h0]
      clear hxe hx1 hyx h0
      go_region_held3 (fun w' => w'.cell? ⟨w.heap.size, 0, none⟩ = some (.int .u64 (ah : Int)) ∧ w'.cell? ⟨w.heap.size, 1, none⟩ = some (.int .u64 (al : Int)) ∧ w'.cell? ⟨w.heap.size + 1, 0, none⟩ = some (.int .u64 (ah : Int)) ∧ w'.cell? ⟨w.heap.size + 1, 1, none⟩ = some (.int .u64 (al : Int)) ∧ w'.cell? ⟨w.heap.size + 1 + 1, 0, none⟩ = some (.int .u64 (ch : Int)) ∧ w'.cell? ⟨w.heap.size + 1 + 1, 1, none⟩ = some (.int .u64 (cl : Int)))
        (first | exact k5 | exact k4 | exact k3 | exact k2 | exact k1)
        (first
          | (go_at_call 15; (with_reducible refine (HAB.out _).mono ?_); rintro e w12 ⟨rfl, h2⟩; have k2 := k1.below h2; have D2 := D1.trans (h2.mono D1.size))
          | (go_at_call 15; (with_reducible refine (HBA.out _).mono ?_); rintro e w13 ⟨rfl, h3⟩; have k3 := k2.below h3; have D3 := D2.trans (h3.mono D2.size))
          | (go_at_call 15; (with_reducible refine (HAA.out _).mono ?_); rintro e w14 ⟨rfl, h4⟩; have k4 := k3.below h4; have D4 := D3.trans (h4.mono D3.size))
          | (go_at_call 15; (with_reducible refine (HAB.out _).mono ?_); rintro e w15 ⟨rfl, h5⟩; have k5 := k4.below h5; have D5 := D4.trans (h5.mono D4.size)))
      go_wp2_with fail
      go_meet
      exact ⟨rfl, k5, D5⟩
    · have hxb : (x == 0) = false := by simp [h0]
      by_cases h1 : ah = bh
      · have hlb : ((al : Int) == (bl : Int)) = false := by
          have : ¬ al = bl := fun h => h0 (hxe.2 ⟨h1, h⟩)
          simp; omega
        subst h1
        clear hxe hx1 hyx h0
        go_region_held3 (fun w' => w'.cell? ⟨w.heap.size, 0, none⟩ = some (.int .u64 (ah : Int)) ∧ w'.cell? ⟨w.heap.size, 1, none⟩ = some (.int .u64 (al : Int)) ∧ w'.cell? ⟨w.heap.size + 1, 0, none⟩ = some (.int .u64 (ah : Int)) ∧ w'.cell? ⟨w.heap.size + 1, 1, none⟩ = some (.int .u64 (bl : Int)) ∧ w'.cell? ⟨w.heap.size + 1 + 1, 0, none⟩ = some (.int .u64 (ch : Int)) ∧ w'.cell? ⟨w.heap.size + 1 + 1, 1, none⟩ = some (.int .u64 (cl : Int)))
          (first | exact k5 | exact k4 | exact k3 | exact k2 | exact k1)
          (first
            | (go_at_call 15; (with_reducible refine (HAB.out _).mono ?_); rintro e w12 ⟨rfl, h2⟩; have k2 := k1.below h2; have D2 := D1.trans (h2.mono D1.size))
            | (go_at_call 15; (with_reducible refine (HBA.out _).mono ?_); rintro e w13 ⟨rfl, h3⟩; have k3 := k2.below h3; have D3 := D2.trans (h3.mono D2.size))
            | (go_at_call 15; (with_reducible refine (HAA.out _).mono ?_); rintro e w14 ⟨rfl, h4⟩; have k4 := k3.below h4; have D4 := D3.trans (h4.mono D3.size))
            | (go_at_call 15; (with_reducible refine (HAB.out _).mono ?_); rintro e w15 ⟨rfl, h5⟩; have k5 := k4.below h5; have D5 := D4.trans (h5.mono D4.size)))
        go_wp2_with fail
        go_meet
        exact ⟨rfl, k5, D5⟩
      · have hhb : ((ah : Int) == (bh : Int)) = false := by simp; omega
        clear hxe hx1 hyx h0 h1
        go_region_held3 (fun w' => w'.cell? ⟨w.heap.size, 0, none⟩ = some (.int .u64 (ah : Int)) ∧ w'.cell? ⟨w.heap.size, 1, none⟩ = some (.int .u64 (al : Int)) ∧ w'.cell? ⟨w.heap.size + 1, 0, none⟩ = some (.int .u64 (bh : Int)) ∧ w'.cell? ⟨w.heap.size + 1, 1, none⟩ = some (.int .u64 (bl : Int)) ∧ w'.cell? ⟨w.heap.size + 1 + 1, 0, none⟩ = some (.int .u64 (ch : Int)) ∧ w'.cell? ⟨w.heap.size + 1 + 1, 1, none⟩ = some (.int .u64 (cl : Int)))
          (first | exact k5 | exact k4 | exact k3 | exact k2 | exact k1)
          (first
            | (go_at_call 15; (with_reducible refine (HAB.out _).mono ?_); rintro e w12 ⟨rfl, h2⟩; have k2 := k1.below h2; have D2 := D1.trans (h2.mono D1.size))
            | (go_at_call 15; (with_reducible refine (HBA.out _).mono ?_); rintro e w13 ⟨rfl, h3⟩; have k3 := k2.below h3; have D3 := D2.trans (h3.mono D2.size))
            | (go_at_call 15; (with_reducible refine (HAA.out _).mono ?_); rintro e w14 ⟨rfl, h4⟩; have k4 := k3.below h4; have D4 := D3.trans (h4.mono D3.size))
            | (go_at_call 15; (with_reducible refine (HAB.out _).mono ?_); rintro e w15 ⟨rfl, h5⟩; have k5 := k4.below h5; have D5 := D4.trans (h5.mono D4.size)))
        go_wp2_with fail
        go_meet
        exact ⟨rfl, k5, D5⟩
  case rest =>
    clear k1 B1
    obtain ⟨rfl, k1, B1⟩ := hcut
    go_upto_region 5 with fail
    go_cut [52] (fun s52 wx => s52 = .bool false ∧ K6 w.heap.size (.int .u64 (ah : Int)) (.int .u64 (al : Int)) (.int .u64 (bh : Int)) (.int .u64 (bl : Int)) (.int .u64 (ch : Int)) (.int .u64 (cl : Int)) wx ∧ Below w.heap.size w wx)
    case first =>
      have hle := HX.out.2.2.2.1
      clear HX
      obtain ⟨p1, p2, p3, p4, p5, p6⟩ := id k1
      by_cases h1 : x ≤ 0
      · have hb1 : decide (x ≤ 0) = true := decide_eq_true h1
        by_cases h2 : z ≤ 0
        · have hb2 : decide (z ≤ 0) = true := decide_eq_true h2
          have hb3 : decide (0 < v) = false := decide_eq_false (by have := hle h1 h2; omega)
          clear hle h1 h2
          go_wp2_with fail
          refine (HAB.out _).mono ?_
          rintro e w12 ⟨rfl, h2⟩
          replace k1 := k1.below h2
          replace B1 := B1.trans (h2.mono B1.size)
          clear h2 p1 p2 p3 p4 p5 p6
          obtain ⟨p1, p2, p3, p4, p5, p6⟩ := id k1
          go_wp2_with fail
          refine (HBC.out _).mono ?_
          rintro e w13 ⟨rfl, h3⟩
          replace k1 := k1.below h3
          replace B1 := B1.trans (h3.mono B1.size)
          clear h3 p1 p2 p3 p4 p5 p6
          obtain ⟨p1, p2, p3, p4, p5, p6⟩ := id k1
          go_wp2_with fail
          refine (HAC.out _).mono ?_
          rintro e w14 ⟨rfl, h4⟩
          replace k1 := k1.below h4
          replace B1 := B1.trans (h4.mono B1.size)
          clear h4 p1 p2 p3 p4 p5 p6
          obtain ⟨p1, p2, p3, p4, p5, p6⟩ := id k1
          go_wp2_with fail
          go_meet
          exact ⟨rfl, k1, B1⟩
        · have hb2 : decide (z ≤ 0) = false := decide_eq_false h2
          clear hle h1 h2
          go_wp2_with fail
          refine (HAB.out _).mono ?_
          rintro e w12 ⟨rfl, h2⟩
          replace k1 := k1.below h2
          replace B1 := B1.trans (h2.mono B1.size)
          clear h2 p1 p2 p3 p4 p5 p6
          obtain ⟨p1, p2, p3, p4, p5, p6⟩ := id k1
          go_wp2_with fail
          refine (HBC.out _).mono ?_
          rintro e w13 ⟨rfl, h3⟩
          replace k1 := k1.below h3
          replace B1 := B1.trans (h3.mono B1.size)
          clear h3 p1 p2 p3 p4 p5 p6
          obtain ⟨p1, p2, p3, p4, p5, p6⟩ := id k1
          go_wp2_with fail
          go_meet
          exact ⟨rfl, k1, B1⟩
      · have hb1 : decide (x ≤ 0) = false := decide_eq_false h1
        clear hle h1
        go_wp2_with fail
        refine (HAB.out _).mono ?_
        rintro e w12 ⟨rfl, h2⟩
        replace k1 := k1.below h2
        replace B1 := B1.trans (h2.mono B1.size)
        clear h2 p1 p2 p3 p4 p5 p6
        obtain ⟨p1, p2, p3, p4, p5, p6⟩ := id k1
        go_wp2_with fail
        go_meet
        exact ⟨rfl, k1, B1⟩
    case rest =>
      clear k1 B1
      obtain ⟨rfl, k1, B1⟩ := hcut
      obtain ⟨p1, p2, p3, p4, p5, p6⟩ := id k1
      go_wp2_with fail
      refine (HS.out _).mono ?_
      rintro e w12 ⟨rfl, h2⟩
      replace k1 := k1.below h2
      replace B1 := B1.trans (h2.mono B1.size)
      clear h2 p1 p2 p3 p4 p5 p6
      obtain ⟨p1, p2, p3, p4, p5, p6⟩ := id k1
      go_upto_region 8 with fail
      have j1 := (Blk.new w12 24 #[.int .u64 (sh : Int), .int .u64 (sl : Int)]).two
      replace k1 := k1.alloc (.cells #[.int .u64 (sh : Int), .int .u64 (sl : Int)] 24)
      replace B1 := B1.alloc B1.size (.cells #[.int .u64 (sh : Int), .int .u64 (sl : Int)] 24)
      generalize w12.alloc (.cells #[.int .u64 (sh : Int), .int .u64 (sl : Int)] 24) = W2 at k1 j1 B1 ⊢
      generalize w12.heap.size = g7 at j1 ⊢
      clear p1 p2 p3 p4 p5 p6
      obtain ⟨p1, p2, p3, p4, p5, p6⟩ := id k1
      go_wp2_with fail
      refine (HT.out _).mono ?_
      rintro e w13 ⟨rfl, h3⟩
      replace k1 := k1.below h3
      replace j1 := j1.below h3
      replace B1 := B1.trans (h3.mono B1.size)
      clear h3 p1 p2 p3 p4 p5 p6
      go_upto_region 9 with fail
      have j2 := (Blk.new w13 24 #[.int .u64 (th : Int), .int .u64 (tl : Int)]).two
      replace j1 := j1.alloc (.cells #[.int .u64 (th : Int), .int .u64 (tl : Int)] 24)
      replace k1 := k1.alloc (.cells #[.int .u64 (th : Int), .int .u64 (tl : Int)] 24)
      replace B1 := B1.alloc B1.size (.cells #[.int .u64 (th : Int), .int .u64 (tl : Int)] 24)
      generalize w13.alloc (.cells #[.int .u64 (th : Int), .int .u64 (tl : Int)] 24) = W3 at k1 j1 j2 B1 ⊢
      generalize w13.heap.size = g9 at j2 ⊢
      obtain ⟨p1, p2, p3, p4, p5, p6⟩ := id k1
      obtain ⟨q1, q2⟩ := id j1
      obtain ⟨q3, q4⟩ := id j2
      have hst := HX.out.2.2.2.2.1
      have hcc := HX.out.2.2.2.2.2
      clear HX
      rcases hcc with ⟨rfl | rfl, hc2⟩
      · rcases hc2 with rfl | rfl
        · obtain rfl := hst rfl rfl
          clear hst
          have k1 : K6 _ _ _ _ _ _ _ W3.drew := k1
          have j1 : C2 _ _ _ W3.drew := j1
          have j2 : C2 _ _ _ W3.drew := j2
          have D1 := B1.drew
          go_region_held3 (fun w' => w'.cell? ⟨w.heap.size, 0, none⟩ = some (.int .u64 (ah : Int)) ∧ w'.cell? ⟨w.heap.size, 1, none⟩ = some (.int .u64 (al : Int)) ∧ w'.cell? ⟨w.heap.size + 1, 0, none⟩ = some (.int .u64 (bh : Int)) ∧ w'.cell? ⟨w.heap.size + 1, 1, none⟩ = some (.int .u64 (bl : Int)) ∧ w'.cell? ⟨g7, 0, none⟩ = some (.int .u64 (sh : Int)) ∧ w'.cell? ⟨g7, 1, none⟩ = some (.int .u64 (sl : Int)) ∧ w'.cell? ⟨g9, 0, none⟩ = some (.int .u64 (th : Int)) ∧ w'.cell? ⟨g9, 1, none⟩ = some (.int .u64 (tl : Int)))
            (first | exact ⟨k3.1, k3.2.1, k3.2.2.1, k3.2.2.2.1, i3.1, i3.2, i4.1, i4.2⟩ | exact ⟨k2.1, k2.2.1, k2.2.2.1, k2.2.2.2.1, i1.1, i1.2, i2.1, i2.2⟩ | exact ⟨k1.1, k1.2.1, k1.2.2.1, k1.2.2.2.1, j1.1, j1.2, j2.1, j2.2⟩)
            (first
              | (go_at_call 15; (with_reducible refine (HST.out _).mono ?_); rintro e w14 ⟨rfl, h2⟩; have k2 := k1.below h2; have i1 := j1.below h2; have i2 := j2.below h2; have D2 := D1.trans (h2.mono D1.size))
              | (go_at_call 15; (with_reducible refine (HAB.out _).mono ?_); rintro e w15 ⟨rfl, h3⟩; have k3 := k2.below h3; have i3 := i1.below h3; have i4 := i2.below h3; have D3 := D2.trans (h3.mono D2.size)))
          go_wp2_with fail
          go_ret
          exact ⟨rfl, D3⟩
        · clear hst
          go_quiet (fail)
          go_wp2
          go_ret
          exact ⟨rfl, below_drewN B1 _⟩
      · clear hst hc2
        go_quiet (fail)
        go_wp2
        go_ret
        exact ⟨rfl, below_drewN B1 _⟩

end Go.Proofs.Yteglkhljenjplaa
