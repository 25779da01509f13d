/-
  The contract of the document's Most. No statement is proved here.
-/
import Derived.Test.YtcdlhfhachpcdaaDoorMa
namespace Go.Proofs.YtcdlhfhachpcdaaDoor
open Go.RowKit

/-- 256 numbers as cells -/
def rowN (f : Nat → Nat) : Array Value := (Array.range 256).map fun i => .int .i64 (f i : Int)
theorem rowN_size (f : Nat → Nat) : (rowN f).size = 256 := by simp [rowN]
theorem rowN_at (f : Nat → Nat) {i : Nat} (h : i < 256) : (rowN f)[i]? = some (.int .i64 (f i : Int)) := by simp [rowN, h]
theorem rowN_ext {cs : Array Value} {f : Nat → Nat} (hs : cs.size = 256) (h : ∀ i, i < 256 → cs[i]? = some (.int .i64 (f i : Int))) : cs = rowN f := by
  apply Array.ext_getElem?
  intro i
  by_cases hi : i < 256
  · rw [h i hi, rowN_at f hi]
  · rw [Array.getElem?_eq_none (by omega), Array.getElem?_eq_none (by rw [rowN_size]; omega)]
theorem rowN_set (f : Nat → Nat) {i : Nat} (h : i < 256) (b : Nat) : (rowN f).setIfInBounds i (.int .i64 (b : Int)) = rowN (fun j => if j = i then b else f j) := by
  apply rowN_ext (by simp [rowN_size])
  intro j hj
  rw [Array.getElem?_setIfInBounds]
  by_cases e : i = j
  · subst e; simp [rowN_size, h]
  · rw [if_neg e, rowN_at f hj, if_neg (fun h => e h.symm)]
theorem rowN_congr {f g : Nat → Nat} (h : ∀ i, i < 256 → f i = g i) : rowN f = rowN g := rowN_ext (rowN_size f) (fun i hi => by rw [rowN_at f hi, h i hi])
theorem zero_row (w : World) : (zeroValue 57).run Tryd.prog w = .ok (.agg (rowN fun _ => 0)) w := by kernel_rfl
theorem info_row : (Tryd.prog.info? 57).map (·.size) = some 256 := by kernel_rfl
theorem rowN_one (f : Nat → Nat) : (rowN f).all (·.oneCell') = true := by
  unfold rowN
  rw [Array.all_eq_true_iff_forall_mem]
  intro x hx
  simp only [Array.mem_map] at hx
  obtain ⟨i, _, rfl⟩ := hx
  rfl
theorem size_row (f : Nat → Nat) : (Tryd.prog.info? 57).map (·.size) = some (rowN f).size := by rw [rowN_size]; exact info_row
/-- a row half done: those below s are done, of s c places are looked at -/
def halfR (B : Nat → Nat) (h s : Nat) (v : Nat) : Nat → Nat := fun j => if j < s then upTo B h j 8 else if j = s then v else 0
theorem half_set (B : Nat → Nat) (h : Nat) {s : Nat} (hs : s < 256) (v v' : Nat) : (rowN (halfR B h s v)).setIfInBounds s (.int .i64 (v' : Int)) = rowN (halfR B h s v') := by
  rw [rowN_set _ hs]
  refine rowN_congr fun j _ => ?_
  unfold halfR
  by_cases e : j = s
  · subst e; rw [if_pos rfl, if_neg (Nat.lt_irrefl _), if_pos rfl]
  · rw [if_neg e]
    by_cases e2 : j < s
    · rw [if_pos e2, if_pos e2]
    · rw [if_neg e2, if_neg e2, if_neg e, if_neg e]
theorem half_next (B : Nat → Nat) (h s : Nat) : rowN (halfR B h s (upTo B h s 8)) = rowN (halfR B h (s + 1) 0) := by
  refine rowN_congr fun j _ => ?_
  unfold halfR
  by_cases e : j < s
  · rw [if_pos e, if_pos (by omega)]
  · rw [if_neg e]
    by_cases e2 : j = s
    · subst e2; rw [if_pos rfl, if_pos (by omega)]
    · rw [if_neg e2, if_neg (by omega)]
      split <;> rfl
theorem half_zero (B : Nat → Nat) (h : Nat) : rowN (halfR B h 0 0) = rowN (fun _ => 0) := rowN_congr fun j _ => by
  unfold halfR
  rw [if_neg (by omega)]
  split <;> rfl
theorem half_done (B : Nat → Nat) (h v : Nat) : rowN (halfR B h 256 v) = rowN (fun j => upTo B h j 8) := rowN_congr fun j hj => by
  unfold halfR
  rw [if_pos hj]
theorem half_at (B : Nat → Nat) (h s v : Nat) : halfR B h s v s = v := by unfold halfR; rw [if_neg (Nat.lt_irrefl _), if_pos rfl]
/-- the masks' hard sets -/
def hards (l : List (Int × Int)) : List Nat := l.map fun m => m.1.toNat
theorem hards_drop {l : List (Int × Int)} {p : Nat} {m : Int × Int} (h : l[p]? = some m) : (hards l).drop p = m.1.toNat :: (hards l).drop (p + 1) := by
  have h1 : (hards l)[p]? = some m.1.toNat := by unfold hards; rw [List.getElem?_map, h]; rfl
  obtain ⟨hl, he⟩ := List.getElem?_eq_some_iff.1 h1
  rw [← he]
  exact List.drop_eq_getElem_cons hl
theorem up_step_no {B : Nat → Nat} {h s c : Nat} (hb : (h &&& s).testBit c = false) : upTo B h s (c + 1) = upTo B h s c := by
  show (if _ then _ else _) = _
  rw [if_neg (by rw [hb]; exact Bool.false_ne_true)]
theorem up_step_more {B : Nat → Nat} {h s c : Nat} (hb : (h &&& s).testBit c = true) (hm : upTo B h s c < 1 + B (s - 2 ^ c)) : upTo B h s (c + 1) = 1 + B (s - 2 ^ c) := by
  show (if _ then _ else _) = _
  rw [if_pos hb, if_pos hm]
theorem up_step_less {B : Nat → Nat} {h s c : Nat} (hb : (h &&& s).testBit c = true) (hm : ¬ upTo B h s c < 1 + B (s - 2 ^ c)) : upTo B h s (c + 1) = upTo B h s c := by
  show (if _ then _ else _) = _
  rw [if_pos hb, if_neg hm]
theorem up_bound {B : Nat → Nat} {N : Nat} (hB : ∀ j, B j ≤ N) (h s c : Nat) : upTo B h s c ≤ N + 1 := by
  rcases upTo_cases B h s c with e | ⟨c, _, _, e⟩
  · rw [e]; have := hB s; omega
  · rw [e]; have := hB (s - 2 ^ c); omega

set_option maxRecDepth 100000 in
set_option maxHeartbeats 8000000 in
theorem rmost_any (A : Option Addr) (n c : Nat) (l : List (Int × Int)) (s : Int) (w : World) (hR : Reads w w.heap.size 2 A n (mvs l)) (hU : ∀ (k : Nat) (m : Int × Int), l[k]? = some m → UM m) (hn : n ≤ 1000) (s0 : 0 ≤ s) (s1 : s < 256) :
    Calls Tryd.prog 24 #[.slice A n c, .int .u32 s] w (Said (.int .i64 (mostN (hards l) s.toNat : Int)) w) := by
  have HL := Lib.hid (masks_len hR)
  have HR := Lib.hid hR
  have HU := Lib.hid hU
  have hz := zero_row
  have HB0 := Lib.hid (And.intro (Blk.new w 57 (rowN fun _ => 0)) ((Below.refl _ w).alloc (Nat.le_refl _) (.cells (rowN fun _ => 0) 57)))
  clear hR hU
  go_enter Tryd.func24, Tryd.ntmps24
  go_wp2_with fail
  go_loopw [6] (fun v wr => ∃ (p : Nat) (q : Int), p ≤ n ∧ v = .int .i64 q ∧ Hid (q = (p : Int) - 1) ∧ Blk wr w.heap.size 57 (rowN (mostN ((hards l).drop p))) ∧ Below w.heap.size w wr) (fun v _ => (intOf v + 1).toNat)
  case atStart =>
    refine ⟨n, (n : Int) - 1, Nat.le_refl _, by go_num, Lib.hid rfl, ?_, HB0.out.2⟩
    have e : (hards l).drop n = [] := List.drop_eq_nil_of_le (by unfold hards; rw [List.length_map, HL.out]; exact Nat.le_refl _)
    rw [e]
    exact HB0.out.1
  case round =>
    obtain ⟨p, q, hp, rfl, Hq, KB, hB⟩ := hrel
    rcases p with _ | p
    · obtain rfl : q = -1 := by have := Hq.out; omega
      obtain ⟨S, rfl⟩ := Int.eq_ofNat_of_zero_le s0
      have c1 := (KB.cell S).trans (rowN_at _ (by omega))
      have i2 : (S : Int) < 256 := by omega
      obtain ⟨E, hE⟩ : ∃ E, mostN ((hards l).drop 0) S = E := ⟨_, rfl⟩
      rw [hE] at c1
      have HE := Lib.hid hE
      clear KB Hq hz hE
      go_wp2
      go_ret
      exact ⟨retI (by rw [Int.toNat_natCast, ← HE.out]; rfl), hB⟩
    · obtain rfl : q = (p : Int) := by have := Hq.out; omega
      obtain ⟨⟨x, y⟩, hm⟩ := elem_at (l := l) (k := p) (by rw [HL.out]; omega)
      obtain ⟨ux, uy⟩ := HU.out p _ hm
      have HD := Lib.hid (hards_drop hm)
      have HM := Lib.hid hm
      have hbd : ∀ j, mostN ((hards l).drop (p + 1)) j ≤ 1000 := fun j => by
        refine Nat.le_trans (most_len _ _) ?_
        rw [List.length_drop]
        unfold hards
        rw [List.length_map, HL.out]
        omega
      have HDN : Hid (∀ j, mostN ((hards l).drop p) j = upTo (mostN ((hards l).drop (p + 1))) x.toNat j 8) := Lib.hid (fun j => by rw [HD.out]; rfl)
      have HAl := Lib.hid (fun (t : Nat) (ht : t < 256) u => rallows_any x y (t : Int) u ux ⟨by omega, by omega⟩)
      have sz := hB.size
      have hzz := KB.lt
      clear hm ux uy
      generalize mostN ((hards l).drop (p + 1)) = B at *
      have HBd := Lib.hid hbd
      have KH := Blk.new wr 57 (rowN fun _ => 0)
      have KB1 := KB.alloc (.cells (rowN fun _ => 0) 57)
      have HB1 := Lib.hid (And.intro KH (And.intro KB1 (hB.alloc sz (.cells (rowN fun _ => 0) 57))))
      clear hbd KH KB1 KB hB
      go_wp2_with fail
      generalize wr.alloc (.cells (rowN fun _ => 0) 57) = w1 at *
      generalize wr.heap.size = gh at *
      go_loopw [8] (fun v w2 => ∃ t : Nat, t ≤ 256 ∧ v = .int .i64 (t : Int) ∧ Blk w2 w.heap.size 57 (rowN B) ∧ Blk w2 gh 57 (rowN (halfR B x.toNat t 0)) ∧ Below w.heap.size w w2) (fun v _ => 256 - (intOf v).toNat)
      case atStart => exact ⟨0, by omega, rfl, HB1.out.2.1, by rw [half_zero]; exact HB1.out.1, HB1.out.2.2⟩
      case round =>
        obtain ⟨t, ht, rfl, KB, KH, hB⟩ := hrel
        by_cases ht2 : t < 256
        · have HT := Lib.hid (HAl.out t ht2)
          have c1 := (KB.cell t).trans (rowN_at _ ht2)
          have c2 := (KH.cell t).trans (rowN_at _ ht2)
          have f2 := KH.frozen t
          have t0 : (t : Int) < 256 := by omega
          have wt : IntKind.u32.wrap (t : Int) = (t : Int) := by simp [IntKind.wrap, IntKind.bits, IntKind.signed]; omega
          have KB2 := KB.far (p := ⟨gh, t, none⟩) (by simp; omega) (.int .i64 (B t : Int))
          have KH2 := KH.set_ t (.int .i64 (B t : Int))
          rw [half_set _ _ ht2] at KH2
          have HB2 := Lib.hid (And.intro KB2 (And.intro KH2 (hB.setCell (p := ⟨gh, t, none⟩) (by simp; omega) (.int .i64 (B t : Int)))))
          clear KB KH hB KB2 KH2
          go_wp2_with fail
          clear c1 c2 f2
          go_loopw [9] (fun v w3 => ∃ k : Nat, k ≤ 8 ∧ v = .int .i64 (k : Int) ∧ Blk w3 w.heap.size 57 (rowN B) ∧ Blk w3 gh 57 (rowN (halfR B x.toNat t (upTo B x.toNat t k))) ∧ Below w.heap.size w w3) (fun v _ => 8 - (intOf v).toNat)
          case atStart => exact ⟨0, by omega, rfl, HB2.out.1, HB2.out.2.1, HB2.out.2.2⟩
          case round =>
            obtain ⟨k, hk, rfl, KB, KH, hB⟩ := hrel
            by_cases hk8 : k < 8
            · obtain ⟨ad, rfl, hb, d0, d1⟩ := mask_at (HR.out.below hB) HM.out
              have j1 : (p : Int) < (n : Int) := by omega
              have hsz := hB.size
              have HHs : Hid (∀ u, Calls Tryd.prog 17 #[.int .u32 ((x.toNat &&& t : Nat) : Int), .int .i64 (k : Int)] u fun e w' => e = .returned (.bool ((x.toNat &&& t).testBit k)) ∧ u = w') := Lib.hid (fun u => by
                have := rhas_any ((x.toNat &&& t : Nat) : Int) (k : Int) u (by omega)
                rwa [has_bit hk8] at this)
              have HTk : Hid (∀ u, Calls Tryd.prog 15 #[.agg #[.int .u32 x, .int .u32 y], .int .u32 (t : Int)] u (Said (.int .u32 ((x.toNat &&& t : Nat) : Int)) u)) := Lib.hid (fun u => by
                have := HT.out u
                rwa [Int.toNat_natCast] at this)
              generalize hav : (x.toNat &&& t : Nat) = av at HHs HTk
              cases hbt : av.testBit k with
              | false =>
                rw [hbt] at HHs
                have HN : Hid (upTo B x.toNat t (k + 1) = upTo B x.toNat t k) := Lib.hid (up_step_no (by rw [hav]; exact hbt))
                clear hbt hav
                go_wp2_with fail
                refine (HTk.out _).mono ?_
                rintro e w4 ⟨rfl, h4⟩
                have KB3 := KB.below h4 KB.lt
                have KH3 := KH.below h4 KH.lt
                have hB3 := hB.trans (h4.mono hsz)
                clear KB KH hB d0 d1 h4 hsz
                go_wp2_with fail
                refine (HHs.out _).mono ?_
                rintro e w5 ⟨rfl, rfl⟩
                go_wp2
                go_roundw
                case rel => exact ⟨k + 1, by omega, by go_num, KB3, by rw [HN.out]; exact KH3, hB3⟩
                case measure => simp [intOf] <;> omega
              | true =>
                rw [hbt] at HHs
                have htb : t.testBit k = true := by
                  rw [← hav, Nat.testBit_and, Bool.and_eq_true] at hbt
                  exact hbt.2
                have hpw : 2 ^ k ≤ t := Nat.ge_two_pow_of_testBit htb
                have HBi := Lib.hid (fun u => rbit_any k u hk)
                obtain ⟨r, hr⟩ : ∃ r : Nat, r = t - 2 ^ k := ⟨_, rfl⟩
                have hp1 : (1 : Nat) ≤ 2 ^ k := Nat.one_le_two_pow
                have er : (t : Int) - (2 : Int) ^ k = (r : Int) := by
                  have : (2 : Int) ^ k = ((2 ^ k : Nat) : Int) := by push_cast; rfl
                  rw [this, hr]; omega
                have hr2 : r < 256 := by omega
                have hr3 : (r : Int) < 256 := by omega
                have wr1 : IntKind.i64.wrap (r : Int) = (r : Int) := by rw [IntKind.wrap_i64]; omega
                have hBr := HBd.out r
                have wb : IntKind.i64.wrap (1 + (B r : Int)) = 1 + (B r : Int) := by rw [IntKind.wrap_i64]; omega
                have HAV := Lib.hid hav
                have HBT := Lib.hid hbt
                have HRR := Lib.hid hr
                clear hbt hav hr htb hpw hp1
                generalize (2 : Int) ^ k = X at *
                obtain ⟨P, hP⟩ : ∃ P, upTo B x.toNat t k = P := ⟨_, rfl⟩
                rw [hP] at KH
                have HPP := Lib.hid hP
                clear hP
                by_cases hmore : P < 1 + B r
                · have q : decide ((P : Int) < 1 + (B r : Int)) = true := decide_eq_true (by omega)
                  have HN : Hid (upTo B x.toNat t (k + 1) = 1 + B r) := Lib.hid (by
                    have := up_step_more (B := B) (h := x.toNat) (s := t) (c := k) (by rw [HAV.out]; exact HBT.out) (by rw [HPP.out, ← HRR.out]; exact hmore)
                    rw [← HRR.out] at this
                    exact this)
                  clear hmore
                  go_wp2_with fail
                  refine (HTk.out _).mono ?_
                  rintro e w4 ⟨rfl, h4⟩
                  have KB3 := KB.below h4 KB.lt
                  have KH3 := KH.below h4 KH.lt
                  have hB3 := hB.trans (h4.mono hsz)
                  clear KB KH hB d0 d1 h4 hsz
                  go_wp2_with fail
                  refine (HHs.out _).mono ?_
                  rintro e w5 ⟨rfl, rfl⟩
                  have c1 := (KB3.cell r).trans (rowN_at _ hr2)
                  have c2 := (KH3.cell t).trans (rowN_at _ ht2)
                  rw [half_at] at c2
                  have f2 := KH3.frozen t
                  have KB4 := KB3.far (p := ⟨gh, t, none⟩) (by simp; omega) (.int .i64 (1 + (B r : Int)))
                  have KH4 := KH3.set_ t (.int .i64 ((1 + B r : Nat) : Int))
                  rw [half_set _ _ ht2] at KH4
                  have e1 : ((1 + B r : Nat) : Int) = 1 + (B r : Int) := by omega
                  rw [e1] at KH4
                  have HB4 := Lib.hid (And.intro KB4 (And.intro KH4 (hB3.setCell (p := ⟨gh, t, none⟩) (by simp; omega) (.int .i64 (1 + (B r : Int))))))
                  clear KB3 KH3 hB3 KB4 KH4 e1
                  go_wp2_with fail
                  refine (HBi.out _).mono ?_
                  rintro e w6 ⟨rfl, rfl⟩
                  go_wp2
                  go_roundw
                  case rel => exact ⟨k + 1, by omega, by go_num, HB4.out.1, by rw [HN.out]; exact HB4.out.2.1, HB4.out.2.2⟩
                  case measure => simp [intOf] <;> omega
                · have q : decide ((P : Int) < 1 + (B r : Int)) = false := decide_eq_false (by omega)
                  have HN : Hid (upTo B x.toNat t (k + 1) = P) := Lib.hid (by
                    rw [← HPP.out]
                    exact up_step_less (by rw [HAV.out]; exact HBT.out) (by rw [HPP.out, ← HRR.out]; exact hmore))
                  clear hmore
                  go_wp2_with fail
                  refine (HTk.out _).mono ?_
                  rintro e w4 ⟨rfl, h4⟩
                  have KB3 := KB.below h4 KB.lt
                  have KH3 := KH.below h4 KH.lt
                  have hB3 := hB.trans (h4.mono hsz)
                  clear KB KH hB d0 d1 h4 hsz
                  go_wp2_with fail
                  refine (HHs.out _).mono ?_
                  rintro e w5 ⟨rfl, rfl⟩
                  have c1 := (KB3.cell r).trans (rowN_at _ hr2)
                  have c2 := (KH3.cell t).trans (rowN_at _ ht2)
                  rw [half_at] at c2
                  have HB4 := Lib.hid (And.intro KB3 (And.intro KH3 hB3))
                  clear KB3 KH3 hB3
                  go_wp2_with fail
                  refine (HBi.out _).mono ?_
                  rintro e w6 ⟨rfl, rfl⟩
                  go_wp2
                  go_roundw
                  case rel => exact ⟨k + 1, by omega, by go_num, HB4.out.1, by rw [HN.out]; exact HB4.out.2.1, HB4.out.2.2⟩
                  case measure => simp [intOf] <;> omega
            · obtain rfl : k = 8 := by omega
              rw [half_next] at KH
              go_wp2
              go_roundw
              case rel => exact ⟨t + 1, by omega, by go_num, KB, KH, hB⟩
              case measure => simp [intOf] <;> omega
        · obtain rfl : t = 256 := by omega
          rw [half_done] at KH
          have HB5 := Lib.hid (And.intro (KB.row (cs' := rowN fun j => upTo B x.toNat j 8)) (below_row (g' := w.heap.size) (cs' := rowN fun j => upTo B x.toNat j 8) hB (Nat.le_refl _)))
          have hzl := KB.lt
          clear HAl HBd
          go_wp2_with (first
            | (refine wpList_load_row rfl 57 (.tmp 7) rfl _ rfl _ _ (0, 0) _ KH Tryd.underlying57 rfl (size_row _) ?_)
            | (refine wpList_store_row rfl 57 (.tmp 5) (.tmp 55) rfl _ _ rfl rfl _ _ KB (size_row _) (by rw [rowN_size, rowN_size]) (rowN_one _) ?_))
          go_roundw
          case rel => exact ⟨p, (p : Int) - 1, by omega, by go_num, Lib.hid rfl, by rw [rowN_congr fun j _ => HDN.out j]; exact HB5.out.1, HB5.out.2⟩
          case measure => simp [intOf] <;> omega

end Go.Proofs.YtcdlhfhachpcdaaDoor
