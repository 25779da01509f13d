/-
  The landed areGangs. No statement is proved here.
-/
import Derived.Test.YtniilfcbiliegaaZMd
namespace Go.Proofs.Ytniilfcbiliegaa
open Go.RowKit Go.Maps

/-- a gang: its slice, and what it holds -/
abbrev Gg := Option Addr × Nat × Nat × List Int
def gv (g : Gg) : List Value := [.slice g.1 g.2.1 g.2.2.1]
theorem length_gv (g : Gg) : (gv g).length = 1 := rfl
def gsI (gs : List Gg) : List (List Int) := gs.map fun g => g.2.2.2
structure GW (w : World) (A : Option Addr) (n : Nat) (gs : List Gg) : Prop where
  row : Reads w w.heap.size 1 A n (flat gv gs)
  small : n ≤ 100
  each : ∀ g ∈ gs, IR w g.1 g.2.1 g.2.2.2 ∧ g.2.1 ≤ 100
theorem GW.len {w : World} {A : Option Addr} {n : Nat} {gs : List Gg} (h : GW w A n gs) : gs.length = n := by
  have h1 := h.row.1
  rw [length_flat gv length_gv] at h1
  omega
theorem GW.below {w w' : World} {A : Option Addr} {n : Nat} {gs : List Gg} (h : GW w A n gs) (hb : Below w.heap.size w w') : GW w' A n gs :=
  ⟨(h.row.below hb).more hb.size, h.small, fun g hg => ⟨(h.each g hg).1.below hb, (h.each g hg).2⟩⟩
theorem GW.at_ {w : World} {A : Option Addr} {n : Nat} {gs : List Gg} (h : GW w A n gs) {k : Nat} {g : Gg} (hx : gs[k]? = some g) :
    ∃ ad, A = some ad ∧ ad.block < w.heap.size ∧ w.cell? (ad.add k) = some (.slice g.1 g.2.1 g.2.2.1) := by
  obtain ⟨ad, e, hb, hc⟩ := h.row.elem gv length_gv hx (by omega)
  have := hc 0 _ rfl
  rw [Nat.mul_one, Nat.add_zero] at this
  exact ⟨ad, e, hb, this⟩
theorem gsI_at {gs : List Gg} {k : Nat} {g : Gg} (h : gs[k]? = some g) : (gsI gs)[k]? = some g.2.2.2 := by unfold gsI; rw [List.getElem?_map, h]; rfl
theorem gsI_len (gs : List Gg) : (gsI gs).length = gs.length := by simp [gsI]

/-! ### how far it is right -/
/-- of a gang's first j members each rises, and is in none of those ahead -/
def gPre (pre : List (List Int)) (is : List Int) (j : Nat) : Prop :=
  riseI 0 is = riseI (lastI is j) (is.drop j) ∧ (∀ i ∈ is.take j, aloneB pre i = true) ∧ (∀ i ∈ is.take j, i ≤ lastI is j) ∧ (0 < j → 0 < lastI is j) ∧ 0 ≤ lastI is j
theorem gPre_zero (pre : List (List Int)) (is : List Int) : gPre pre is 0 := ⟨rfl, by simp, by simp, by omega, Int.le_refl 0⟩
theorem gOk_of {gs : List (List Int)} {k : Nat} {is : List Int} (hg : gs[k]? = some is) (hp : gPre (gs.take k) is is.length) (h0 : is ≠ []) : gOk gs k = true := by
  rw [gOk_at hg, decide_eq_true h0, hp.1, List.drop_length, Bool.true_and]
  show (true && _) = true
  rw [Bool.true_and, List.all_eq_true]
  intro i hi
  exact hp.2.1 i (by rw [List.take_length]; exact hi)
theorem gOk_nil {gs : List (List Int)} {k : Nat} (hg : gs[k]? = some []) : gOk gs k = false := by rw [gOk_at hg]; rfl
theorem gPre_step {pre : List (List Int)} {is : List Int} {j : Nat} {x : Int} (h : gPre pre is j) (hx : is[j]? = some x) (h1 : lastI is j < x) (h2 : x ≤ 16) (ha : aloneB pre x = true) : gPre pre is (j + 1) := by
  refine ⟨?_, fun i hi => ?_, fun i hi => ?_, ?_⟩
  · rw [h.1, riseI_at hx, decide_eq_true h1, decide_eq_true h2, lastI_at hx]
    rfl
  · rw [List.take_add_one, hx, List.mem_append] at hi
    rcases hi with hi | hi
    · exact h.2.1 i hi
    · rw [show i = x from by simpa using hi]; exact ha
  · rw [List.take_add_one, hx, List.mem_append] at hi
    rw [lastI_at hx]
    rcases hi with hi | hi
    · have := h.2.2.1 i hi; omega
    · rw [show i = x from by simpa using hi]; exact Int.le_refl _
  · rw [lastI_at hx]
    have := h.2.2.2.2
    exact ⟨fun _ => by omega, by omega⟩
theorem gOk_rise {gs : List (List Int)} {k : Nat} {is : List Int} (hg : gs[k]? = some is) {j : Nat} {x : Int} (h : gPre (gs.take k) is j) (hx : is[j]? = some x) (hb : ¬ (lastI is j < x ∧ x ≤ 16)) : gOk gs k = false := by
  rw [gOk_at hg, h.1, riseI_at hx]
  have : (decide (lastI is j < x) && decide (x ≤ 16)) = false := by
    rw [Bool.and_eq_false_iff, decide_eq_false_iff_not, decide_eq_false_iff_not]
    omega
  rw [this, Bool.false_and, Bool.and_false, Bool.false_and]
theorem gOk_met {gs : List (List Int)} {k : Nat} {is : List Int} (hg : gs[k]? = some is) {j : Nat} {x : Int} (hx : is[j]? = some x) (ha : aloneB (gs.take k) x = false) : gOk gs k = false := by
  rw [gOk_at hg, Bool.and_eq_false_iff]
  right
  rw [List.all_eq_false]
  exact ⟨x, List.mem_of_getElem? hx, by rw [ha]; simp⟩
/-- what was met behind k gangs and j members of the next -/
def metL (gs : List (List Int)) (k j : Nat) : List Int := (gs.take k).flatten ++ (gs.getD k []).take j
theorem metL_next {gs : List (List Int)} {k : Nat} {is : List Int} (hg : gs[k]? = some is) : metL gs k is.length = metL gs (k + 1) 0 := by
  unfold metL
  rw [getD_at hg, List.take_length, List.take_add_one, hg]
  simp
theorem metL_snoc {gs : List (List Int)} {k j : Nat} {is : List Int} {x : Int} (hg : gs[k]? = some is) (hx : is[j]? = some x) : metL gs k (j + 1) = metL gs k j ++ [x] := by
  unfold metL
  rw [getD_at hg, List.take_add_one, hx, List.append_assoc]
  rfl
theorem metL_mem {gs : List (List Int)} {k j : Nat} {is : List Int} {x : Int} (hg : gs[k]? = some is) (h : gPre (gs.take k) is j) (h1 : lastI is j < x) : x ∈ metL gs k j ↔ aloneB (gs.take k) x = false := by
  unfold metL
  rw [getD_at hg, List.mem_append, List.mem_flatten]
  constructor
  · rintro (⟨g, hg, hx⟩ | hx)
    · exact aloneB_false hg hx
    · have := h.2.2.1 x hx; omega
  · intro ha
    left
    unfold aloneB at ha
    simpa using ha
theorem metL_len {gs : List (List Int)} (h : ∀ g ∈ gs, g.length ≤ 100) (hn : gs.length ≤ 100) {k j : Nat} {is : List Int} (hg : gs[k]? = some is) (hj : j < is.length) : (metL gs k j).length < 10000 := by
  have hk := (List.getElem?_eq_some_iff.1 hg).1
  have h1 : ∀ l : List (List Int), (∀ g ∈ l, g.length ≤ 100) → l.flatten.length ≤ 100 * l.length := by
    intro l
    induction l with
    | nil => simp
    | cons a l ih =>
      intro hl
      have := ih fun g hg => hl g (by simp [hg])
      have := hl a (by simp)
      rw [List.flatten_cons, List.length_append, List.length_cons]
      omega
  have h2 := h1 (gs.take k) fun g hg => h g (List.mem_of_mem_take hg)
  have h3 := h is (List.mem_of_getElem? hg)
  unfold metL
  rw [getD_at hg, List.length_append, List.length_take]
  rw [List.length_take] at h2
  omega

theorem met_no {t : TypeId} {q : IntKind} {b : Nat} {L : List Int} {x : Int} {w w' : World} {e : Ending} (h : Met t q b L x w e w') (hx : x ∈ L) : e = .returned (.bool false) ∧ w.grownBy w' (some b) :=
  ⟨h.1.trans (by rw [decide_eq_false (by simpa using hx)]), h.2.1⟩
theorem met_yes {t : TypeId} {q : IntKind} {b : Nat} {L : List Int} {x : Int} {w w' : World} {e : Ending} (h : Met t q b L x w e w') (hx : x ∉ L) : e = .returned (.bool true) ∧ w.grownBy w' (some b) ∧ SM t q w' b (L ++ [x]) :=
  ⟨h.1.trans (by rw [decide_eq_true hx]), h.2.1, h.2.2 hx⟩

set_option maxRecDepth 100000 in
set_option maxHeartbeats 8000000 in
theorem agangs_any (A : Option Addr) (n c : Nat) (gs : List Gg) (w : World) (hG : GW w A n gs) : Calls Try.prog 44 #[.slice A n c] w (Said (.bool (gangsB (gsI gs))) w) := by
  have hmm := @run_makeMap Try.prog
  have HG := Lib.hid hG
  have HN : Hid (n ≤ 100) := Lib.hid hG.small
  have HL := Lib.hid hG.len
  have HE : Hid ((∀ g ∈ gsI gs, g.length ≤ 100) ∧ (gsI gs).length ≤ 100) := Lib.hid ⟨fun g hg => by
    obtain ⟨y, hy, rfl⟩ := List.mem_map.1 hg
    have := (hG.each y hy).1.len
    have := (hG.each y hy).2
    omega, by rw [gsI_len, hG.len]; exact hG.small⟩
  have M : SM 3 .i64 (w.alloc (.map #[] 0)) w.heap.size (metL (gsI gs) 0 0) := by
    have := SM.made (k := 3) (q := .i64) w
    unfold metL
    simpa using this
  have GB := (Below.refl w.heap.size w).alloc (Nat.le_refl _) (.map #[] 0)
  clear hG
  go_enter Try.func44, Try.ntmps44
  go_wp2_with fail
  clear hmm
  generalize World.alloc _ _ = X at M GB ⊢
  go_loopw [12] (fun iv wr => ∃ k : Nat, k ≤ n ∧ iv = .int .i64 (k : Int) ∧ Hid (∀ j, j < k → gOk (gsI gs) j = true) ∧ Hid (SM 3 .i64 wr w.heap.size (metL (gsI gs) k 0)) ∧ Below w.heap.size w wr) (fun iv _ => n - (intOf iv).toNat)
  case atStart => exact ⟨0, by omega, rfl, Lib.hid (fun j hj => by omega), Lib.hid M, GB⟩
  case round =>
    clear M GB
    obtain ⟨k, hk, rfl, HA, HM, hB⟩ := hrel
    by_cases hlt : k < n
    · obtain ⟨⟨A2, m, c2, is⟩, hx⟩ := elem_at (l := gs) (k := k) (by rw [HL.out]; exact hlt)
      obtain ⟨ad, rfl, hb1, d0⟩ := (HG.out.below hB).at_ hx
      have HX := Lib.hid (gsI_at hx)
      have hI := HG.out.each _ (List.mem_of_getElem? hx)
      have HI := Lib.hid hI.1
      have HIL : Hid (is.length = m) := Lib.hid hI.1.len
      have hm9 : m ≤ 100 := hI.2
      have HK : Hid (k < (gsI gs).length) := Lib.hid (by rw [gsI_len, HL.out]; exact hlt)
      have i1 : (0 : Int) ≤ (k : Int) := by omega
      have i2 : (k : Int) < (n : Int) := by omega
      have hn := HN.out
      clear hx hb1 hI
      go_wp2_with fail
      clear d0
      go_loopw [6, 18] (fun s i wr2 => ∃ j : Nat, j ≤ m ∧ s = .int .i64 (lastI is j) ∧ i = .int .i64 (j : Int) ∧ Hid (gPre ((gsI gs).take k) is j) ∧ Hid (SM 3 .i64 wr2 w.heap.size (metL (gsI gs) k j)) ∧ Below w.heap.size w wr2) (fun _ i _ => m - (intOf i).toNat)
      case atStart => exact ⟨0, by omega, rfl, rfl, Lib.hid (gPre_zero _ _), HM, hB⟩
      case round =>
        clear hB
        obtain ⟨j, hj, rfl, rfl, HP, HM2, hB2⟩ := hrel
        by_cases hjt : j < m
        · obtain ⟨x, hx⟩ := elem_at (l := is) (k := j) (by rw [HIL.out]; exact hjt)
          obtain ⟨ad2, rfl, _, d1⟩ := (HI.out.below hB2).at_ hx
          have HXJ := Lib.hid hx
          have HB2 := Lib.hid hB2
          have j1 : (0 : Int) ≤ (j : Int) := by omega
          have j2 : (j : Int) < (m : Int) := by omega
          obtain ⟨last, hlast⟩ : ∃ l, lastI is j = l := ⟨_, rfl⟩
          rw [hlast]
          have HLA := Lib.hid hlast
          have h00 : 0 ≤ last := by rw [← hlast]; exact HP.out.2.2.2.2
          clear hB2 hlast hx
          by_cases h1 : x ≤ last
          · have c1 : decide (x ≤ last) = true := decide_eq_true h1
            have HV : Hid (gangsB (gsI gs) = false) := Lib.hid (gangs_no HK.out (gOk_rise HX.out HP.out HXJ.out (by rw [HLA.out]; omega)))
            go_wp2_with fail
            go_ret
            exact ⟨retB HV.out.symm, HB2.out⟩
          · have c1 : decide (x ≤ last) = false := decide_eq_false h1
            by_cases h2 : 16 < x
            · have c2 : decide (16 < x) = true := decide_eq_true h2
              have HV : Hid (gangsB (gsI gs) = false) := Lib.hid (gangs_no HK.out (gOk_rise HX.out HP.out HXJ.out (by omega)))
              go_wp2_with fail
              go_ret
              exact ⟨retB HV.out.symm, HB2.out⟩
            · have c2 : decide (16 < x) = false := decide_eq_false h2
              have HMt := Lib.hid (meeti_any w.heap.size (metL (gsI gs) k j) x _ HM2.out (by omega) (by omega) (metL_len HE.out.1 HE.out.2 HX.out (by rw [HIL.out]; exact hjt)))
              have hmm := metL_mem HX.out HP.out (x := x) (by rw [HLA.out]; omega)
              cases ha : aloneB ((gsI gs).take k) x with
              | false =>
                have HV : Hid (gangsB (gsI gs) = false) := Lib.hid (gangs_no HK.out (gOk_met HX.out HXJ.out ha))
                replace HMt := Lib.hid (HMt.out.mono fun e w' h => met_no h (hmm.2 ha))
                clear ha hmm
                go_wp2_with fail
                refine (HMt.out).mono ?_
                rintro e w5 ⟨rfl, g5⟩
                have HB5 := Lib.hid (HB2.out.grown g5 HB2.out.size (fun g hg => by injection hg with hg; omega))
                clear g5
                go_wp2
                go_ret
                exact ⟨retB HV.out.symm, HB5.out⟩
              | true =>
                have hne : x ∉ metL (gsI gs) k j := fun h => by rw [hmm.1 h] at ha; cases ha
                have HNE := Lib.hid hne
                have HP2 := Lib.hid (gPre_step HP.out HXJ.out (by rw [HLA.out]; omega) (by omega) ha)
                have HLX := Lib.hid (lastI_at HXJ.out)
                have HMS := Lib.hid (metL_snoc HX.out HXJ.out)
                replace HMt := Lib.hid (HMt.out.mono fun e w' h => met_yes h hne)
                clear ha hmm hne
                go_wp2_with fail
                refine (HMt.out).mono ?_
                rintro e w5 ⟨rfl, g5, m5⟩
                have HB5 := Lib.hid (HB2.out.grown g5 HB2.out.size (fun g hg => by injection hg with hg; omega))
                have HM5 : Hid (SM 3 .i64 w5 w.heap.size (metL (gsI gs) k (j + 1))) := Lib.hid (by rw [HMS.out]; exact m5)
                clear g5 m5
                go_wp2
                go_roundw
                case rel => exact ⟨j + 1, by omega, by rw [HLX.out], by go_num, HP2, HM5, HB5.out⟩
                case measure => simp [intOf] <;> omega
        · obtain rfl : j = m := by omega
          have HIs : Hid (gPre ((gsI gs).take k) is is.length) := Lib.hid (by have h := HP.out; rw [← HIL.out] at h; exact h)
          have HM3 : Hid (SM 3 .i64 _ w.heap.size (metL (gsI gs) (k + 1) 0)) := Lib.hid (by have h := HM2.out; rw [← HIL.out, metL_next HX.out] at h; exact h)
          obtain ⟨last, hlast⟩ : ∃ l, lastI is j = l := ⟨_, rfl⟩
          rw [hlast]
          by_cases h0 : j = 0
          · subst h0
            have hnil : is = [] := List.eq_nil_of_length_eq_zero HIL.out
            obtain rfl : last = 0 := hlast.symm
            have HV : Hid (gangsB (gsI gs) = false) := Lib.hid (gangs_no HK.out (gOk_nil (by rw [HX.out, hnil])))
            clear hlast hnil
            go_wp2_with fail
            go_ret
            exact ⟨retB HV.out.symm, hB2⟩
          · have hp : 0 < last := by rw [← hlast]; exact HP.out.2.2.2.1 (by omega)
            have c1 : (last == 0) = false := by simpa using (show ¬ last = 0 by omega)
            have HA2 : Hid (∀ q, q < k + 1 → gOk (gsI gs) q = true) := Lib.hid (fun q hq => by
              by_cases e : q = k
              · subst e
                exact gOk_of HX.out HIs.out (fun e2 => by have := HIL.out; rw [e2] at this; exact h0 this.symm)
              · exact HA.out q (by omega))
            clear hlast hp
            go_wp2_with fail
            go_roundw
            case rel => exact ⟨k + 1, by omega, by go_num, HA2, HM3, hB2⟩
            case measure => simp [intOf] <;> omega
    · obtain rfl : k = n := by omega
      have HV : Hid (gangsB (gsI gs) = true) := Lib.hid (gangs_yes fun q hq => HA.out q (by rw [gsI_len, HL.out] at hq; exact hq))
      go_wp2
      go_ret
      exact ⟨retB HV.out.symm, hB⟩

end Go.Proofs.Ytniilfcbiliegaa
