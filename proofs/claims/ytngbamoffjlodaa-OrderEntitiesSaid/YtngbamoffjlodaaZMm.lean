/-
  Several texts as one.
-/
import Derived.Test.YtngbamoffjlodaaZMd
import Derived.Deep.RegionHeld3
import Derived.Test.YtngbamoffjlodaaZMb
/-
  The landed areGangs. No statement is proved here.
-/
namespace Go.Proofs.Ytngbamoffjlodaa
open Go.RowKit Go.Maps

/-- a gang: its slice, and what it holds -/
abbrev Gg := Option Addr × Nat × Nat × List Int
def gv (g : Gg) : List Value := [.slice g.1 g.2.1 g.2.2.1]
theorem length_gv (g : Gg) : (gv g).length = 1 := rfl
def gsI (gs : List Gg) : List (List Int) := gs.map fun g => g.2.2.2
structure GW (w : World) (A : Option Addr) (n : Nat) (gs : List Gg) : Prop where
  row : Reads w w.heap.size 1 A n (flat gv gs)
  small : n ≤ 100
  each : ∀ g ∈ gs, IR w g.1 g.2.1 g.2.2.2 ∧ g.2.1 ≤ 100
theorem GW.len {w : World} {A : Option Addr} {n : Nat} {gs : List Gg} (h : GW w A n gs) : gs.length = n := by
  have h1 := h.row.1
  rw [length_flat gv length_gv] at h1
  omega
theorem GW.below {w w' : World} {A : Option Addr} {n : Nat} {gs : List Gg} (h : GW w A n gs) (hb : Below w.heap.size w w') : GW w' A n gs :=
  ⟨(h.row.below hb).more hb.size, h.small, fun g hg => ⟨(h.each g hg).1.below hb, (h.each g hg).2⟩⟩
theorem GW.at_ {w : World} {A : Option Addr} {n : Nat} {gs : List Gg} (h : GW w A n gs) {k : Nat} {g : Gg} (hx : gs[k]? = some g) :
    ∃ ad, A = some ad ∧ ad.block < w.heap.size ∧ w.cell? (ad.add k) = some (.slice g.1 g.2.1 g.2.2.1) := by
  obtain ⟨ad, e, hb, hc⟩ := h.row.elem gv length_gv hx (by omega)
  have := hc 0 _ rfl
  rw [Nat.mul_one, Nat.add_zero] at this
  exact ⟨ad, e, hb, this⟩
theorem gsI_at {gs : List Gg} {k : Nat} {g : Gg} (h : gs[k]? = some g) : (gsI gs)[k]? = some g.2.2.2 := by unfold gsI; rw [List.getElem?_map, h]; rfl
theorem gsI_len (gs : List Gg) : (gsI gs).length = gs.length := by simp [gsI]

/-! ### how far it is right -/
/-- of a gang's first j members each rises, and is in none of those ahead -/
def gPre (pre : List (List Int)) (is : List Int) (j : Nat) : Prop :=
  riseI 0 is = riseI (lastI is j) (is.drop j) ∧ (∀ i ∈ is.take j, aloneB pre i = true) ∧ (∀ i ∈ is.take j, i ≤ lastI is j) ∧ (0 < j → 0 < lastI is j) ∧ 0 ≤ lastI is j
theorem gPre_zero (pre : List (List Int)) (is : List Int) : gPre pre is 0 := ⟨rfl, by simp, by simp, by omega, Int.le_refl 0⟩
theorem gOk_of {gs : List (List Int)} {k : Nat} {is : List Int} (hg : gs[k]? = some is) (hp : gPre (gs.take k) is is.length) (h0 : is ≠ []) : gOk gs k = true := by
  rw [gOk_at hg, decide_eq_true h0, hp.1, List.drop_length, Bool.true_and]
  show (true && _) = true
  rw [Bool.true_and, List.all_eq_true]
  intro i hi
  exact hp.2.1 i (by rw [List.take_length]; exact hi)
theorem gOk_nil {gs : List (List Int)} {k : Nat} (hg : gs[k]? = some []) : gOk gs k = false := by rw [gOk_at hg]; rfl
theorem gPre_step {pre : List (List Int)} {is : List Int} {j : Nat} {x : Int} (h : gPre pre is j) (hx : is[j]? = some x) (h1 : lastI is j < x) (h2 : x ≤ 16) (ha : aloneB pre x = true) : gPre pre is (j + 1) := by
  refine ⟨?_, fun i hi => ?_, fun i hi => ?_, ?_⟩
  · rw [h.1, riseI_at hx, decide_eq_true h1, decide_eq_true h2, lastI_at hx]
    rfl
  · rw [List.take_add_one, hx, List.mem_append] at hi
    rcases hi with hi | hi
    · exact h.2.1 i hi
    · rw [show i = x from by simpa using hi]; exact ha
  · rw [List.take_add_one, hx, List.mem_append] at hi
    rw [lastI_at hx]
    rcases hi with hi | hi
    · have := h.2.2.1 i hi; omega
    · rw [show i = x from by simpa using hi]; exact Int.le_refl _
  · rw [lastI_at hx]
    have := h.2.2.2.2
    exact ⟨fun _ => by omega, by omega⟩
theorem gOk_rise {gs : List (List Int)} {k : Nat} {is : List Int} (hg : gs[k]? = some is) {j : Nat} {x : Int} (h : gPre (gs.take k) is j) (hx : is[j]? = some x) (hb : ¬ (lastI is j < x ∧ x ≤ 16)) : gOk gs k = false := by
  rw [gOk_at hg, h.1, riseI_at hx]
  have : (decide (lastI is j < x) && decide (x ≤ 16)) = false := by
    rw [Bool.and_eq_false_iff, decide_eq_false_iff_not, decide_eq_false_iff_not]
    omega
  rw [this, Bool.false_and, Bool.and_false, Bool.false_and]
theorem gOk_met {gs : List (List Int)} {k : Nat} {is : List Int} (hg : gs[k]? = some is) {j : Nat} {x : Int} (hx : is[j]? = some x) (ha : aloneB (gs.take k) x = false) : gOk gs k = false := by
  rw [gOk_at hg, Bool.and_eq_false_iff]
  right
  rw [List.all_eq_false]
  exact ⟨x, List.mem_of_getElem? hx, by rw [ha]; simp⟩
/-- what was met behind k gangs and j members of the next -/
def metL (gs : List (List Int)) (k j : Nat) : List Int := (gs.take k).flatten ++ (gs.getD k []).take j
theorem metL_next {gs : List (List Int)} {k : Nat} {is : List Int} (hg : gs[k]? = some is) : metL gs k is.length = metL gs (k + 1) 0 := by
  unfold metL
  rw [getD_at hg, List.take_length, List.take_add_one, hg]
  simp
theorem metL_snoc {gs : List (List Int)} {k j : Nat} {is : List Int} {x : Int} (hg : gs[k]? = some is) (hx : is[j]? = some x) : metL gs k (j + 1) = metL gs k j ++ [x] := by
  unfold metL
  rw [getD_at hg, List.take_add_one, hx, List.append_assoc]
  rfl
theorem metL_mem {gs : List (List Int)} {k j : Nat} {is : List Int} {x : Int} (hg : gs[k]? = some is) (h : gPre (gs.take k) is j) (h1 : lastI is j < x) : x ∈ metL gs k j ↔ aloneB (gs.take k) x = false := by
  unfold metL
  rw [getD_at hg, List.mem_append, List.mem_flatten]
  constructor
  · rintro (⟨g, hg, hx⟩ | hx)
    · exact aloneB_false hg hx
    · have := h.2.2.1 x hx; omega
  · intro ha
    left
    unfold aloneB at ha
    simpa using ha
theorem metL_len {gs : List (List Int)} (h : ∀ g ∈ gs, g.length ≤ 100) (hn : gs.length ≤ 100) {k j : Nat} {is : List Int} (hg : gs[k]? = some is) (hj : j < is.length) : (metL gs k j).length < 10000 := by
  have hk := (List.getElem?_eq_some_iff.1 hg).1
  have h1 : ∀ l : List (List Int), (∀ g ∈ l, g.length ≤ 100) → l.flatten.length ≤ 100 * l.length := by
    intro l
    induction l with
    | nil => simp
    | cons a l ih =>
      intro hl
      have := ih fun g hg => hl g (by simp [hg])
      have := hl a (by simp)
      rw [List.flatten_cons, List.length_append, List.length_cons]
      omega
  have h2 := h1 (gs.take k) fun g hg => h g (List.mem_of_mem_take hg)
  have h3 := h is (List.mem_of_getElem? hg)
  unfold metL
  rw [getD_at hg, List.length_append, List.length_take]
  rw [List.length_take] at h2
  omega

theorem met_no {t : TypeId} {q : IntKind} {b : Nat} {L : List Int} {x : Int} {w w' : World} {e : Ending} (h : Met t q b L x w e w') (hx : x ∈ L) : e = .returned (.bool false) ∧ w.grownBy w' (some b) :=
  ⟨h.1.trans (by rw [decide_eq_false (by simpa using hx)]), h.2.1⟩
theorem met_yes {t : TypeId} {q : IntKind} {b : Nat} {L : List Int} {x : Int} {w w' : World} {e : Ending} (h : Met t q b L x w e w') (hx : x ∉ L) : e = .returned (.bool true) ∧ w.grownBy w' (some b) ∧ SM t q w' b (L ++ [x]) :=
  ⟨h.1.trans (by rw [decide_eq_true hx]), h.2.1, h.2.2 hx⟩

set_option maxRecDepth 100000 in
set_option maxHeartbeats 8000000 in
theorem agangs_any (A : Option Addr) (n c : Nat) (gs : List Gg) (w : World) (hG : GW w A n gs) : Calls Try.prog 44 #[.slice A n c] w (Said (.bool (gangsB (gsI gs))) w) := by
  have hmm := @run_makeMap Try.prog
  have HG := Lib.hid hG
  have HN : Hid (n ≤ 100) := Lib.hid hG.small
  have HL := Lib.hid hG.len
  have HE : Hid ((∀ g ∈ gsI gs, g.length ≤ 100) ∧ (gsI gs).length ≤ 100) := Lib.hid ⟨fun g hg => by
    obtain ⟨y, hy, rfl⟩ := List.mem_map.1 hg
    have := (hG.each y hy).1.len
    have := (hG.each y hy).2
    omega, by rw [gsI_len, hG.len]; exact hG.small⟩
  have M : SM 3 .i64 (w.alloc (.map #[] 0)) w.heap.size (metL (gsI gs) 0 0) := by
    have := SM.made (k := 3) (q := .i64) w
    unfold metL
    simpa using this
  have GB := (Below.refl w.heap.size w).alloc (Nat.le_refl _) (.map #[] 0)
  clear hG
  go_enter Try.func44, Try.ntmps44
  go_wp2_with fail
  clear hmm
  generalize World.alloc _ _ = X at M GB ⊢
  go_loopw [12] (fun iv wr => ∃ k : Nat, k ≤ n ∧ iv = .int .i64 (k : Int) ∧ Hid (∀ j, j < k → gOk (gsI gs) j = true) ∧ Hid (SM 3 .i64 wr w.heap.size (metL (gsI gs) k 0)) ∧ Below w.heap.size w wr) (fun iv _ => n - (intOf iv).toNat)
  case atStart => exact ⟨0, by omega, rfl, Lib.hid (fun j hj => by omega), Lib.hid M, GB⟩
  case round =>
    clear M GB
    obtain ⟨k, hk, rfl, HA, HM, hB⟩ := hrel
    by_cases hlt : k < n
    · obtain ⟨⟨A2, m, c2, is⟩, hx⟩ := elem_at (l := gs) (k := k) (by rw [HL.out]; exact hlt)
      obtain ⟨ad, rfl, hb1, d0⟩ := (HG.out.below hB).at_ hx
      have HX := Lib.hid (gsI_at hx)
      have hI := HG.out.each _ (List.mem_of_getElem? hx)
      have HI := Lib.hid hI.1
      have HIL : Hid (is.length = m) := Lib.hid hI.1.len
      have hm9 : m ≤ 100 := hI.2
      have HK : Hid (k < (gsI gs).length) := Lib.hid (by rw [gsI_len, HL.out]; exact hlt)
      have i1 : (0 : Int) ≤ (k : Int) := by omega
      have i2 : (k : Int) < (n : Int) := by omega
      have hn := HN.out
      clear hx hb1 hI
      go_wp2_with fail
      clear d0
      go_loopw [6, 18] (fun s i wr2 => ∃ j : Nat, j ≤ m ∧ s = .int .i64 (lastI is j) ∧ i = .int .i64 (j : Int) ∧ Hid (gPre ((gsI gs).take k) is j) ∧ Hid (SM 3 .i64 wr2 w.heap.size (metL (gsI gs) k j)) ∧ Below w.heap.size w wr2) (fun _ i _ => m - (intOf i).toNat)
      case atStart => exact ⟨0, by omega, rfl, rfl, Lib.hid (gPre_zero _ _), HM, hB⟩
      case round =>
        clear hB
        obtain ⟨j, hj, rfl, rfl, HP, HM2, hB2⟩ := hrel
        by_cases hjt : j < m
        · obtain ⟨x, hx⟩ := elem_at (l := is) (k := j) (by rw [HIL.out]; exact hjt)
          obtain ⟨ad2, rfl, _, d1⟩ := (HI.out.below hB2).at_ hx
          have HXJ := Lib.hid hx
          have HB2 := Lib.hid hB2
          have j1 : (0 : Int) ≤ (j : Int) := by omega
          have j2 : (j : Int) < (m : Int) := by omega
          obtain ⟨last, hlast⟩ : ∃ l, lastI is j = l := ⟨_, rfl⟩
          rw [hlast]
          have HLA := Lib.hid hlast
          have h00 : 0 ≤ last := by rw [← hlast]; exact HP.out.2.2.2.2
          clear hB2 hlast hx
          by_cases h1 : x ≤ last
          · have c1 : decide (x ≤ last) = true := decide_eq_true h1
            have HV : Hid (gangsB (gsI gs) = false) := Lib.hid (gangs_no HK.out (gOk_rise HX.out HP.out HXJ.out (by rw [HLA.out]; omega)))
            go_wp2_with fail
            go_ret
            exact ⟨retB HV.out.symm, HB2.out⟩
          · have c1 : decide (x ≤ last) = false := decide_eq_false h1
            by_cases h2 : 16 < x
            · have c2 : decide (16 < x) = true := decide_eq_true h2
              have HV : Hid (gangsB (gsI gs) = false) := Lib.hid (gangs_no HK.out (gOk_rise HX.out HP.out HXJ.out (by omega)))
              go_wp2_with fail
              go_ret
              exact ⟨retB HV.out.symm, HB2.out⟩
            · have c2 : decide (16 < x) = false := decide_eq_false h2
              have HMt := Lib.hid (meeti_any w.heap.size (metL (gsI gs) k j) x _ HM2.out (by omega) (by omega) (metL_len HE.out.1 HE.out.2 HX.out (by rw [HIL.out]; exact hjt)))
              have hmm := metL_mem HX.out HP.out (x := x) (by rw [HLA.out]; omega)
              cases ha : aloneB ((gsI gs).take k) x with
              | false =>
                have HV : Hid (gangsB (gsI gs) = false) := Lib.hid (gangs_no HK.out (gOk_met HX.out HXJ.out ha))
                replace HMt := Lib.hid (HMt.out.mono fun e w' h => met_no h (hmm.2 ha))
                clear ha hmm
                go_wp2_with fail
                refine (HMt.out).mono ?_
                rintro e w5 ⟨rfl, g5⟩
                have HB5 := Lib.hid (HB2.out.grown g5 HB2.out.size (fun g hg => by injection hg with hg; omega))
                clear g5
                go_wp2
                go_ret
                exact ⟨retB HV.out.symm, HB5.out⟩
              | true =>
                have hne : x ∉ metL (gsI gs) k j := fun h => by rw [hmm.1 h] at ha; cases ha
                have HNE := Lib.hid hne
                have HP2 := Lib.hid (gPre_step HP.out HXJ.out (by rw [HLA.out]; omega) (by omega) ha)
                have HLX := Lib.hid (lastI_at HXJ.out)
                have HMS := Lib.hid (metL_snoc HX.out HXJ.out)
                replace HMt := Lib.hid (HMt.out.mono fun e w' h => met_yes h hne)
                clear ha hmm hne
                go_wp2_with fail
                refine (HMt.out).mono ?_
                rintro e w5 ⟨rfl, g5, m5⟩
                have HB5 := Lib.hid (HB2.out.grown g5 HB2.out.size (fun g hg => by injection hg with hg; omega))
                have HM5 : Hid (SM 3 .i64 w5 w.heap.size (metL (gsI gs) k (j + 1))) := Lib.hid (by rw [HMS.out]; exact m5)
                clear g5 m5
                go_wp2
                go_roundw
                case rel => exact ⟨j + 1, by omega, by rw [HLX.out], by go_num, HP2, HM5, HB5.out⟩
                case measure => simp [intOf] <;> omega
        · obtain rfl : j = m := by omega
          have HIs : Hid (gPre ((gsI gs).take k) is is.length) := Lib.hid (by have h := HP.out; rw [← HIL.out] at h; exact h)
          have HM3 : Hid (SM 3 .i64 _ w.heap.size (metL (gsI gs) (k + 1) 0)) := Lib.hid (by have h := HM2.out; rw [← HIL.out, metL_next HX.out] at h; exact h)
          obtain ⟨last, hlast⟩ : ∃ l, lastI is j = l := ⟨_, rfl⟩
          rw [hlast]
          by_cases h0 : j = 0
          · subst h0
            have hnil : is = [] := List.eq_nil_of_length_eq_zero HIL.out
            obtain rfl : last = 0 := hlast.symm
            have HV : Hid (gangsB (gsI gs) = false) := Lib.hid (gangs_no HK.out (gOk_nil (by rw [HX.out, hnil])))
            clear hlast hnil
            go_wp2_with fail
            go_ret
            exact ⟨retB HV.out.symm, hB2⟩
          · have hp : 0 < last := by rw [← hlast]; exact HP.out.2.2.2.1 (by omega)
            have c1 : (last == 0) = false := by simpa using (show ¬ last = 0 by omega)
            have HA2 : Hid (∀ q, q < k + 1 → gOk (gsI gs) q = true) := Lib.hid (fun q hq => by
              by_cases e : q = k
              · subst e
                exact gOk_of HX.out HIs.out (fun e2 => by have := HIL.out; rw [e2] at this; exact h0 this.symm)
              · exact HA.out q (by omega))
            clear hlast hp
            go_wp2_with fail
            go_roundw
            case rel => exact ⟨k + 1, by omega, by go_num, HA2, HM3, hB2⟩
            case measure => simp [intOf] <;> omega
    · obtain rfl : k = n := by omega
      have HV : Hid (gangsB (gsI gs) = true) := Lib.hid (gangs_yes fun q hq => HA.out q (by rw [gsI_len, HL.out] at hq; exact hq))
      go_wp2
      go_ret
      exact ⟨retB HV.out.symm, hB⟩

end Go.Proofs.Ytngbamoffjlodaa
/-
  The landed areWaits and Check. No statement is proved here.
-/
namespace Go.Proofs.Ytngbamoffjlodaa
open Go.RowKit Go.Maps

/-- the order numbers of waits -/
def ordL (ws : List Wt) : List Int := ws.map fun w => (w.2.1 : Int)
theorem ordL_snoc {ws : List Wt} {k : Nat} {i : Int} {o : Nat} {f : Bool} (h : ws[k]? = some (i, o, f)) : ordL (ws.take (k + 1)) = ordL (ws.take k) ++ [(o : Int)] := by
  unfold ordL
  rw [List.take_add_one, h, List.map_append]
  rfl
theorem ordL_mem {ws : List Wt} {o : Nat} : (o : Int) ∈ ordL ws ↔ o ∈ ws.map fun w => w.2.1 := by
  unfold ordL
  rw [List.mem_map, List.mem_map]
  constructor
  · rintro ⟨w, hw, e⟩; exact ⟨w, hw, by omega⟩
  · rintro ⟨w, hw, e⟩; exact ⟨w, hw, by omega⟩
theorem wOk_yes {qs : List Rn} {ws : List Wt} {k : Nat} {i : Int} {o : Nat} {f : Bool} {r : Rn} (hw : ws[k]? = some (i, o, f)) (hr : qs[k]? = some r) (h1 : i = r.1) (h2 : 1 ≤ o) (h3 : o ≤ 4611686018427387904) (h4 : (o : Int) ∉ ordL (ws.take k)) : wOk qs ws k = true := by
  rw [wOk_at hw hr]
  simp only [Bool.and_eq_true, decide_eq_true_eq]
  exact ⟨⟨⟨h1, h2⟩, h3⟩, fun h => h4 (ordL_mem.2 h)⟩
theorem wOk_no {qs : List Rn} {ws : List Wt} {k : Nat} {i : Int} {o : Nat} {f : Bool} {r : Rn} (hw : ws[k]? = some (i, o, f)) (hr : qs[k]? = some r) (h : ¬ i = r.1 ∨ ¬ 1 ≤ o ∨ ¬ o ≤ 4611686018427387904 ∨ (o : Int) ∈ ordL (ws.take k)) : wOk qs ws k = false := by
  rw [wOk_at hw hr]
  simp only [Bool.and_eq_false_iff, decide_eq_false_iff_not]
  rcases h with h | h | h | h
  · exact .inl (.inl (.inl h))
  · exact .inl (.inl (.inr h))
  · exact .inl (.inr h)
  · exact .inr (fun h2 => h2 (ordL_mem.1 h))

set_option maxRecDepth 100000 in
set_option maxHeartbeats 16000000 in
theorem awaits_any (A' : Option Addr) (n' c' : Nat) (ws : List Wt) (A : Option Addr) (n c : Nat) (qs : List Rn) (w : World) (hW : WT w A' n' c' ws) (hG : QR w A n c qs) :
    Calls Try.prog 43 #[.slice A' n' c', .agg #[.slice A n c]] w (Said (.bool (waitsB qs ws)) w) := by
  have hmm := @run_makeMap Try.prog
  have HG := Lib.hid hG
  have HW := Lib.hid hW
  have HN : Hid (n ≤ 1000) := Lib.hid hG.small
  have HL := Lib.hid hG.len
  have HL' := Lib.hid hW.len
  obtain ⟨K0, GB⟩ := box1 w 26 #[.slice A n c]
  clear hG hW
  by_cases hnn : n' = n
  · subst hnn
    have hz : (w.alloc (.cells #[.slice A n' c] 26)).heap.size = w.heap.size + 1 := by simp
    have M := SM.made (k := 41) (q := .u64) (w.alloc (.cells #[.slice A n' c] 26))
    rw [hz] at M
    have M0 : SM 41 .u64 ((w.alloc (.cells #[.slice A n' c] 26)).alloc (.map #[] 0)) (w.heap.size + 1) (ordL (ws.take 0)) := M
    have KA := K0.alloc (.map #[] 0)
    have GA := GB.alloc GB.size (.map #[] 0)
    have z0 := K0.cell 0
    clear M K0 GB
    go_enter Try.func43, Try.ntmps43
    go_wp2_with fail
    clear hmm z0 hz
    generalize World.alloc (World.alloc _ _) _ = X at M0 KA GA ⊢
    obtain ⟨n, hn⟩ : ∃ n, n' = n := ⟨_, rfl⟩
    subst hn
    go_loopw [17] (fun iv wr => ∃ k : Nat, k ≤ n' ∧ iv = .int .i64 (k : Int) ∧ Hid (∀ j, j < k → wOk qs ws j = true) ∧ Hid (SM 41 .u64 wr (w.heap.size + 1) (ordL (ws.take k))) ∧ Hid (Blk wr w.heap.size 26 #[.slice A n' c]) ∧ Below w.heap.size w wr) (fun iv _ => n' - (intOf iv).toNat)
    case atStart => exact ⟨0, by omega, rfl, Lib.hid (fun j hj => by omega), Lib.hid M0, Lib.hid KA, GA⟩
    case round =>
      clear M0 KA GA
      obtain ⟨k, hk, rfl, HA, HM, HK, hB⟩ := hrel
      by_cases hlt : k < n'
      · obtain ⟨⟨ri, a, h, l, x⟩, hx⟩ := elem_at (l := qs) (k := k) (by rw [HL.out]; exact hlt)
        obtain ⟨⟨i, o, f⟩, hy⟩ := elem_at (l := ws) (k := k) (by rw [HL'.out]; exact hlt)
        have HX := Lib.hid hx
        have HY := Lib.hid hy
        have HKL : Hid (k < ws.length) := Lib.hid (by rw [HL'.out]; exact hlt)
        obtain ⟨ad', rfl, hb2, d0, d1, d2⟩ := (HW.out.below hB).at_ hy
        have K1 := Blk.new wr 67 #[.int .i64 i, .int .u64 (o : Int), .bool f]
        have B1 := hB.alloc hB.size (.cells #[.int .i64 i, .int .u64 (o : Int), .bool f] 67)
        have KQ := HK.out.alloc (.cells #[.int .i64 i, .int .u64 (o : Int), .bool f] 67)
        have M1 := HM.out.alloc (.cells #[.int .i64 i, .int .u64 (o : Int), .bool f] 67)
        obtain ⟨ad, rfl, hb1, e0, e1, e2, e3, e4⟩ := rn_at ((HG.out.below B1).row) hx
        have HAB : Hid (((ad.add (k * 5)).block) < w.heap.size) := Lib.hid (by
          obtain ⟨ad3, q3, hb3, _⟩ := rn_at HG.out.row hx
          injection q3 with q3
          rw [show (ad.add (k * 5)).block = ad.block from by unfold Addr.add; split <;> rfl, q3]
          exact hb3)
        have i1 : (0 : Int) ≤ (k : Int) := by omega
        have i2 : (k : Int) < (n' : Int) := by omega
        have hn := HN.out
        have ho : o < 2 ^ 64 := HW.out.u64 _ (List.mem_of_getElem? hy)
        have HB1 := Lib.hid B1
        have z0 := K1.cell 0
        have z1 := K1.cell 1
        have y0 := KQ.cell 0
        clear hx hy hb1 hb2 e1 e2 e3 e4
        by_cases c1 : i = ri
        · subst c1
          by_cases c2 : o < 1
          · have c2d : decide ((o : Int) < 1) = true := decide_eq_true (by omega)
            have HV : Hid (waitsB qs ws = false) := Lib.hid (waits_no HKL.out (wOk_no HY.out HX.out (.inr (.inl (by omega)))))
            clear K1 B1 KQ M1 ho
            go_wp2_with fail
            go_quiet (fail)
            go_wp2_with fail
            go_ret
            exact ⟨retB HV.out.symm, below_drewN HB1.out _⟩
          · have c2d : decide ((o : Int) < 1) = false := decide_eq_false (by omega)
            by_cases c3 : 4611686018427387904 < o
            · have c3d : decide ((4611686018427387904 : Int) < (o : Int)) = true := decide_eq_true (by omega)
              have HV : Hid (waitsB qs ws = false) := Lib.hid (waits_no HKL.out (wOk_no HY.out HX.out (.inr (.inr (.inl (by omega))))))
              clear K1 B1 KQ M1 ho
              go_wp2_with fail
              go_quiet (fail)
              go_wp2_with fail
              go_ret
              exact ⟨retB HV.out.symm, below_drewN HB1.out _⟩
            · have c3d : decide ((4611686018427387904 : Int) < (o : Int)) = false := decide_eq_false (by omega)
              have HLS : Hid ((ordL (ws.take k)).length < 10000) := Lib.hid (by unfold ordL; rw [List.length_map, List.length_take]; omega)
              have HZ : Hid (w.heap.size + 1 < wr.heap.size) := Lib.hid HM.out.lt
              by_cases c4 : (o : Int) ∈ ordL (ws.take k)
              · have HIn := Lib.hid c4
                have HV : Hid (waitsB qs ws = false) := Lib.hid (waits_no HKL.out (wOk_no HY.out HX.out (.inr (.inr (.inr c4)))))
                clear c4
                go_upto_region 7 with fail
                refine wp_region_held_drew (S := fun u => Blk u wr.heap.size 67 #[.int .i64 i, .int .u64 (o : Int), .bool f] ∧ Blk u w.heap.size 26 #[.slice (some ad) n' c] ∧ u.cell? (ad.add (k * 5)) = some (.int .i64 i)) (by kernel_rfl) ⟨K1, KQ, e0⟩ (fun hS => ?_)
                have HSM := Lib.hid (show SM 41 .u64 (wr.alloc (.cells #[.int .i64 i, .int .u64 (o : Int), .bool f] 67)).drew (w.heap.size + 1) (ordL (ws.take k)) from M1.below (Below.refl _ _).drew)
                have HBV := Lib.hid B1.drew
                clear K1 KQ e0 M1 B1 z0 z1 y0
                generalize World.drew _ = V at HSM HBV hS ⊢
                refine wpAnyH_take (i := 0) (v := .pointer (some ⟨wr.heap.size, 0, none⟩)) rfl (by kernel_rfl) (by kernel_rfl) (by kernel_rfl) (fun _ _ _ h => h) (Or.inl ⟨by kernel_rfl, fun u hSw => (by go_simp)⟩) hS ?_
                change wpAnyH _ _ _ _ _ _ _ (Act.put _ (some 22) _) _
                simp only [Act.put]
                try simp only [List.setIfInBounds_toArray, List.set_cons_zero, List.set_cons_succ]
                refine wpAnyH_take (i := 1) (v := .int .i64 i) rfl (by kernel_rfl) (by kernel_rfl) (by kernel_rfl) (fun _ _ _ h => h) (Or.inl ⟨by kernel_rfl, fun u hSw => (by have q0 := hSw.1.cell 0; go_simp)⟩) hS ?_
                change wpAnyH _ _ _ _ _ _ _ (Act.put _ (some 23) _) _
                simp only [Act.put]
                try simp only [List.setIfInBounds_toArray, List.set_cons_zero, List.set_cons_succ]
                refine wpAnyH_take (i := 2) (v := .pointer (some ⟨w.heap.size, 0, none⟩)) rfl (by kernel_rfl) (by kernel_rfl) (by kernel_rfl) (fun _ _ _ h => h) (Or.inl ⟨by kernel_rfl, fun u hSw => (by go_simp)⟩) hS ?_
                change wpAnyH _ _ _ _ _ _ _ (Act.put _ (some 24) _) _
                simp only [Act.put]
                try simp only [List.setIfInBounds_toArray, List.set_cons_zero, List.set_cons_succ]
                refine wpAnyH_take (i := 3) (v := .slice (some ad) n' c) rfl (by kernel_rfl) (by kernel_rfl) (by kernel_rfl) (fun _ _ _ h => h) (Or.inl ⟨by kernel_rfl, fun u hSw => (by have q0 := hSw.2.1.cell 0; go_simp)⟩) hS ?_
                change wpAnyH _ _ _ _ _ _ _ (Act.put _ (some 25) _) _
                simp only [Act.put]
                try simp only [List.setIfInBounds_toArray, List.set_cons_zero, List.set_cons_succ]
                refine wpAnyH_take (i := 4) (v := .int .i64 (k : Int)) rfl (by kernel_rfl) (by kernel_rfl) (by kernel_rfl) (fun _ _ _ h => h) (Or.inl ⟨by kernel_rfl, fun u hSw => (by go_simp)⟩) hS ?_
                change wpAnyH _ _ _ _ _ _ _ (Act.put _ (some 26) _) _
                simp only [Act.put]
                try simp only [List.setIfInBounds_toArray, List.set_cons_zero, List.set_cons_succ]
                refine wpAnyH_take (i := 5) (v := .pointer (some (ad.add (k * 5)))) rfl (by kernel_rfl) (by kernel_rfl) (by kernel_rfl) (fun _ _ _ h => h) (Or.inl ⟨by kernel_rfl, fun u hSw => (by go_simp)⟩) hS ?_
                change wpAnyH _ _ _ _ _ _ _ (Act.put _ (some 27) _) _
                simp only [Act.put]
                try simp only [List.setIfInBounds_toArray, List.set_cons_zero, List.set_cons_succ]
                refine wpAnyH_take (i := 6) (v := .pointer (some (ad.add (k * 5)))) rfl (by kernel_rfl) (by kernel_rfl) (by kernel_rfl) (fun _ _ _ h => h) (Or.inl ⟨by kernel_rfl, fun u hSw => (by go_simp)⟩) hS ?_
                change wpAnyH _ _ _ _ _ _ _ (Act.put _ (some 28) _) _
                simp only [Act.put]
                try simp only [List.setIfInBounds_toArray, List.set_cons_zero, List.set_cons_succ]
                refine wpAnyH_take (i := 7) (v := .int .i64 i) rfl (by kernel_rfl) (by kernel_rfl) (by kernel_rfl) (fun _ _ _ h => h) (Or.inl ⟨by kernel_rfl, fun u hSw => (by have q0 := hSw.2.2; go_simp)⟩) hS ?_
                change wpAnyH _ _ _ _ _ _ _ (Act.put _ (some 29) _) _
                simp only [Act.put]
                try simp only [List.setIfInBounds_toArray, List.set_cons_zero, List.set_cons_succ]
                refine wpAnyH_take (i := 8) (v := .bool false) rfl (by kernel_rfl) (by kernel_rfl) (by kernel_rfl) (fun _ _ _ h => h) (Or.inl ⟨by kernel_rfl, fun u hSw => (by go_simp)⟩) hS ?_
                change wpAnyH _ _ _ _ _ _ _ (Act.put _ (some 30) _) _
                simp only [Act.put]
                try simp only [List.setIfInBounds_toArray, List.set_cons_zero, List.set_cons_succ]
                refine wpAnyH_take (i := 9) (v := .bool false) rfl (by kernel_rfl) (by kernel_rfl) (by kernel_rfl) (fun _ _ _ h => h) (Or.inl ⟨by kernel_rfl, fun u hSw => (by go_simp)⟩) hS ?_
                change wpAnyH _ _ _ _ _ _ _ (Act.put _ (some 31) _) _
                simp only [Act.put]
                try simp only [List.setIfInBounds_toArray, List.set_cons_zero, List.set_cons_succ]
                refine wpAnyH_take (i := 10) (v := .pointer (some ⟨wr.heap.size, 1, none⟩)) rfl (by kernel_rfl) (by kernel_rfl) (by kernel_rfl) (fun _ _ _ h => h) (Or.inl ⟨by kernel_rfl, fun u hSw => (by go_simp)⟩) hS ?_
                change wpAnyH _ _ _ _ _ _ _ (Act.put _ (some 32) _) _
                simp only [Act.put]
                try simp only [List.setIfInBounds_toArray, List.set_cons_zero, List.set_cons_succ]
                refine wpAnyH_take (i := 11) (v := .int .u64 (o : Int)) rfl (by kernel_rfl) (by kernel_rfl) (by kernel_rfl) (fun _ _ _ h => h) (Or.inl ⟨by kernel_rfl, fun u hSw => (by have q0 := hSw.1.cell 1; go_simp)⟩) hS ?_
                change wpAnyH _ _ _ _ _ _ _ (Act.put _ (some 33) _) _
                simp only [Act.put]
                try simp only [List.setIfInBounds_toArray, List.set_cons_zero, List.set_cons_succ]
                refine wpAnyH_take (i := 12) (v := .bool false) rfl (by kernel_rfl) (by kernel_rfl) (by kernel_rfl) (fun _ _ _ h => h) (Or.inl ⟨by kernel_rfl, fun u hSw => (by go_simp)⟩) hS ?_
                change wpAnyH _ _ _ _ _ _ _ (Act.put _ (some 34) _) _
                simp only [Act.put]
                try simp only [List.setIfInBounds_toArray, List.set_cons_zero, List.set_cons_succ]
                refine wpAnyH_take (i := 13) (v := .bool false) rfl (by kernel_rfl) (by kernel_rfl) (by kernel_rfl) (fun _ _ _ h => h) (Or.inl ⟨by kernel_rfl, fun u hSw => (by go_simp)⟩) hS ?_
                change wpAnyH _ _ _ _ _ _ _ (Act.put _ (some 35) _) _
                simp only [Act.put]
                try simp only [List.setIfInBounds_toArray, List.set_cons_zero, List.set_cons_succ]
                refine wpAnyH_take (i := 14) (v := .bool false) rfl (by kernel_rfl) (by kernel_rfl) (by kernel_rfl) (fun _ _ _ h => h) (Or.inl ⟨by kernel_rfl, fun u hSw => (by go_simp)⟩) hS ?_
                change wpAnyH _ _ _ _ _ _ _ (Act.put _ (some 36) _) _
                simp only [Act.put]
                try simp only [List.setIfInBounds_toArray, List.set_cons_zero, List.set_cons_succ]
                refine wpAnyH_take (i := 15) (v := .pointer (some ⟨wr.heap.size, 1, none⟩)) rfl (by kernel_rfl) (by kernel_rfl) (by kernel_rfl) (fun _ _ _ h => h) (Or.inl ⟨by kernel_rfl, fun u hSw => (by go_simp)⟩) hS ?_
                change wpAnyH _ _ _ _ _ _ _ (Act.put _ (some 37) _) _
                simp only [Act.put]
                try simp only [List.setIfInBounds_toArray, List.set_cons_zero, List.set_cons_succ]
                refine wpAnyH_take (i := 16) (v := .int .u64 (o : Int)) rfl (by kernel_rfl) (by kernel_rfl) (by kernel_rfl) (fun _ _ _ h => h) (Or.inl ⟨by kernel_rfl, fun u hSw => (by have q0 := hSw.1.cell 1; go_simp)⟩) hS ?_
                change wpAnyH _ _ _ _ _ _ _ (Act.put _ (some 38) _) _
                simp only [Act.put]
                try simp only [List.setIfInBounds_toArray, List.set_cons_zero, List.set_cons_succ]
                refine wpAnyH_take (i := 17) (v := .bool false) rfl (by kernel_rfl) (by kernel_rfl) (by kernel_rfl) (fun _ _ _ h => h) (Or.inl ⟨by kernel_rfl, fun u hSw => (by go_simp)⟩) hS ?_
                change wpAnyH _ _ _ _ _ _ _ (Act.put _ (some 39) _) _
                simp only [Act.put]
                try simp only [List.setIfInBounds_toArray, List.set_cons_zero, List.set_cons_succ]
                refine wpAnyH_take (i := 18) (v := .bool false) rfl (by kernel_rfl) (by kernel_rfl) (by kernel_rfl) (fun _ _ _ h => h) (Or.inl ⟨by kernel_rfl, fun u hSw => (by go_simp)⟩) hS ?_
                change wpAnyH _ _ _ _ _ _ _ (Act.put _ (some 40) _) _
                simp only [Act.put]
                try simp only [List.setIfInBounds_toArray, List.set_cons_zero, List.set_cons_succ]
                refine wpAnyH_take (i := 19) (v := .bool false) rfl (by kernel_rfl) (by kernel_rfl) (by kernel_rfl) (fun _ _ _ h => h) (Or.inl ⟨by kernel_rfl, fun u hSw => (by go_simp)⟩) hS ?_
                change wpAnyH _ _ _ _ _ _ _ (Act.put _ (some 41) _) _
                simp only [Act.put]
                try simp only [List.setIfInBounds_toArray, List.set_cons_zero, List.set_cons_succ]
                refine wpAnyH_take (i := 20) (v := .map (some (w.heap.size + 1))) rfl (by kernel_rfl) (by kernel_rfl) (by kernel_rfl) (fun _ _ _ h => h) (Or.inl ⟨by kernel_rfl, fun u hSw => (by go_simp)⟩) hS ?_
                change wpAnyH _ _ _ _ _ _ _ (Act.put _ (some 42) _) _
                simp only [Act.put]
                try simp only [List.setIfInBounds_toArray, List.set_cons_zero, List.set_cons_succ]
                refine wpAnyH_take (i := 21) (v := .pointer (some ⟨wr.heap.size, 1, none⟩)) rfl (by kernel_rfl) (by kernel_rfl) (by kernel_rfl) (fun _ _ _ h => h) (Or.inl ⟨by kernel_rfl, fun u hSw => (by go_simp)⟩) hS ?_
                change wpAnyH _ _ _ _ _ _ _ (Act.put _ (some 43) _) _
                simp only [Act.put]
                try simp only [List.setIfInBounds_toArray, List.set_cons_zero, List.set_cons_succ]
                refine wpAnyH_take (i := 22) (v := .int .u64 (o : Int)) rfl (by kernel_rfl) (by kernel_rfl) (by kernel_rfl) (fun _ _ _ h => h) (Or.inl ⟨by kernel_rfl, fun u hSw => (by have q0 := hSw.1.cell 1; go_simp)⟩) hS ?_
                change wpAnyH _ _ _ _ _ _ _ (Act.put _ (some 44) _) _
                simp only [Act.put]
                try simp only [List.setIfInBounds_toArray, List.set_cons_zero, List.set_cons_succ]
                refine wpAnyH_ready (rs := [23]) (by kernel_rfl) (by simp) ?_
                refine AllReadyH.cons rfl (fun K hK => ?_) AllReadyH.nil
                go_simp
                refine ((meetu_any _ _ (o : Int) _ (HSM.out.below (Below.refl _ _)) (by omega) (by omega) HLS.out).mono fun e w' h => met_no h HIn.out).mono ?_
                rintro e5 w5 ⟨rfl, g5⟩
                have HB5 := Lib.hid (HBV.out.grown g5 HBV.out.size (fun g hg => by injection hg with hg; omega))
                have hS5 : Blk w5 wr.heap.size 67 #[.int .i64 i, .int .u64 (o : Int), .bool f] ∧ Blk w5 w.heap.size 26 #[.slice (some ad) n' c] ∧ w5.cell? (ad.add (k * 5)) = some (.int .i64 i) :=
                  ⟨hS.1.grown g5 (fun e => by injection e with e; have := HZ.out; omega), hS.2.1.grown g5 (fun e => by injection e with e; omega), g5.cell hS.2.2 (fun e => by injection e with e; have := HAB.out; omega)⟩
                have HK5 := Lib.hid hS5.2.1
                clear g5 hS
                refine hK.out _ _ hS5 (fun hS => ?_)
                clear hK K
                refine wpAnyH_take (i := 24) (v := .bool true) rfl (by kernel_rfl) (by kernel_rfl) (by kernel_rfl) (fun _ _ _ h => h) (Or.inl ⟨by kernel_rfl, fun u hSw => (by go_simp)⟩) hS ?_
                change wpAnyH _ _ _ _ _ _ _ (Act.put _ (some 46) _) _
                simp only [Act.put]
                try simp only [List.setIfInBounds_toArray, List.set_cons_zero, List.set_cons_succ]
                refine wpAnyH_take (i := 25) (v := .bool true) rfl (by kernel_rfl) (by kernel_rfl) (by kernel_rfl) (fun _ _ _ h => h) (Or.inl ⟨by kernel_rfl, fun u hSw => (by go_simp)⟩) hS ?_
                change wpAnyH _ _ _ _ _ _ _ (Act.put _ (some 47) _) _
                simp only [Act.put]
                try simp only [List.setIfInBounds_toArray, List.set_cons_zero, List.set_cons_succ]
                refine wpAnyH_done (by kernel_rfl) ?_ _
                clear hS
                go_wp2_with fail
                go_ret
                exact ⟨retB HV.out.symm, HB5.out⟩
              · have HIn := Lib.hid c4
                have HOS := Lib.hid (ordL_snoc HY.out)
                have HA2 : Hid (∀ j, j < k + 1 → wOk qs ws j = true) := Lib.hid (fun j hj => by
                  by_cases e : j = k
                  · subst e; exact wOk_yes HY.out HX.out rfl (by omega) (by omega) c4
                  · exact HA.out j (by omega))
                clear c4
                go_upto_region 7 with fail
                refine wp_region_held_drew (S := fun u => Blk u wr.heap.size 67 #[.int .i64 i, .int .u64 (o : Int), .bool f] ∧ Blk u w.heap.size 26 #[.slice (some ad) n' c] ∧ u.cell? (ad.add (k * 5)) = some (.int .i64 i)) (by kernel_rfl) ⟨K1, KQ, e0⟩ (fun hS => ?_)
                have HSM := Lib.hid (show SM 41 .u64 (wr.alloc (.cells #[.int .i64 i, .int .u64 (o : Int), .bool f] 67)).drew (w.heap.size + 1) (ordL (ws.take k)) from M1.below (Below.refl _ _).drew)
                have HBV := Lib.hid B1.drew
                clear K1 KQ e0 M1 B1 z0 z1 y0
                generalize World.drew _ = V at HSM HBV hS ⊢
                refine wpAnyH_take (i := 0) (v := .pointer (some ⟨wr.heap.size, 0, none⟩)) rfl (by kernel_rfl) (by kernel_rfl) (by kernel_rfl) (fun _ _ _ h => h) (Or.inl ⟨by kernel_rfl, fun u hSw => (by go_simp)⟩) hS ?_
                change wpAnyH _ _ _ _ _ _ _ (Act.put _ (some 22) _) _
                simp only [Act.put]
                try simp only [List.setIfInBounds_toArray, List.set_cons_zero, List.set_cons_succ]
                refine wpAnyH_take (i := 1) (v := .int .i64 i) rfl (by kernel_rfl) (by kernel_rfl) (by kernel_rfl) (fun _ _ _ h => h) (Or.inl ⟨by kernel_rfl, fun u hSw => (by have q0 := hSw.1.cell 0; go_simp)⟩) hS ?_
                change wpAnyH _ _ _ _ _ _ _ (Act.put _ (some 23) _) _
                simp only [Act.put]
                try simp only [List.setIfInBounds_toArray, List.set_cons_zero, List.set_cons_succ]
                refine wpAnyH_take (i := 2) (v := .pointer (some ⟨w.heap.size, 0, none⟩)) rfl (by kernel_rfl) (by kernel_rfl) (by kernel_rfl) (fun _ _ _ h => h) (Or.inl ⟨by kernel_rfl, fun u hSw => (by go_simp)⟩) hS ?_
                change wpAnyH _ _ _ _ _ _ _ (Act.put _ (some 24) _) _
                simp only [Act.put]
                try simp only [List.setIfInBounds_toArray, List.set_cons_zero, List.set_cons_succ]
                refine wpAnyH_take (i := 3) (v := .slice (some ad) n' c) rfl (by kernel_rfl) (by kernel_rfl) (by kernel_rfl) (fun _ _ _ h => h) (Or.inl ⟨by kernel_rfl, fun u hSw => (by have q0 := hSw.2.1.cell 0; go_simp)⟩) hS ?_
                change wpAnyH _ _ _ _ _ _ _ (Act.put _ (some 25) _) _
                simp only [Act.put]
                try simp only [List.setIfInBounds_toArray, List.set_cons_zero, List.set_cons_succ]
                refine wpAnyH_take (i := 4) (v := .int .i64 (k : Int)) rfl (by kernel_rfl) (by kernel_rfl) (by kernel_rfl) (fun _ _ _ h => h) (Or.inl ⟨by kernel_rfl, fun u hSw => (by go_simp)⟩) hS ?_
                change wpAnyH _ _ _ _ _ _ _ (Act.put _ (some 26) _) _
                simp only [Act.put]
                try simp only [List.setIfInBounds_toArray, List.set_cons_zero, List.set_cons_succ]
                refine wpAnyH_take (i := 5) (v := .pointer (some (ad.add (k * 5)))) rfl (by kernel_rfl) (by kernel_rfl) (by kernel_rfl) (fun _ _ _ h => h) (Or.inl ⟨by kernel_rfl, fun u hSw => (by go_simp)⟩) hS ?_
                change wpAnyH _ _ _ _ _ _ _ (Act.put _ (some 27) _) _
                simp only [Act.put]
                try simp only [List.setIfInBounds_toArray, List.set_cons_zero, List.set_cons_succ]
                refine wpAnyH_take (i := 6) (v := .pointer (some (ad.add (k * 5)))) rfl (by kernel_rfl) (by kernel_rfl) (by kernel_rfl) (fun _ _ _ h => h) (Or.inl ⟨by kernel_rfl, fun u hSw => (by go_simp)⟩) hS ?_
                change wpAnyH _ _ _ _ _ _ _ (Act.put _ (some 28) _) _
                simp only [Act.put]
                try simp only [List.setIfInBounds_toArray, List.set_cons_zero, List.set_cons_succ]
                refine wpAnyH_take (i := 7) (v := .int .i64 i) rfl (by kernel_rfl) (by kernel_rfl) (by kernel_rfl) (fun _ _ _ h => h) (Or.inl ⟨by kernel_rfl, fun u hSw => (by have q0 := hSw.2.2; go_simp)⟩) hS ?_
                change wpAnyH _ _ _ _ _ _ _ (Act.put _ (some 29) _) _
                simp only [Act.put]
                try simp only [List.setIfInBounds_toArray, List.set_cons_zero, List.set_cons_succ]
                refine wpAnyH_take (i := 8) (v := .bool false) rfl (by kernel_rfl) (by kernel_rfl) (by kernel_rfl) (fun _ _ _ h => h) (Or.inl ⟨by kernel_rfl, fun u hSw => (by go_simp)⟩) hS ?_
                change wpAnyH _ _ _ _ _ _ _ (Act.put _ (some 30) _) _
                simp only [Act.put]
                try simp only [List.setIfInBounds_toArray, List.set_cons_zero, List.set_cons_succ]
                refine wpAnyH_take (i := 9) (v := .bool false) rfl (by kernel_rfl) (by kernel_rfl) (by kernel_rfl) (fun _ _ _ h => h) (Or.inl ⟨by kernel_rfl, fun u hSw => (by go_simp)⟩) hS ?_
                change wpAnyH _ _ _ _ _ _ _ (Act.put _ (some 31) _) _
                simp only [Act.put]
                try simp only [List.setIfInBounds_toArray, List.set_cons_zero, List.set_cons_succ]
                refine wpAnyH_take (i := 10) (v := .pointer (some ⟨wr.heap.size, 1, none⟩)) rfl (by kernel_rfl) (by kernel_rfl) (by kernel_rfl) (fun _ _ _ h => h) (Or.inl ⟨by kernel_rfl, fun u hSw => (by go_simp)⟩) hS ?_
                change wpAnyH _ _ _ _ _ _ _ (Act.put _ (some 32) _) _
                simp only [Act.put]
                try simp only [List.setIfInBounds_toArray, List.set_cons_zero, List.set_cons_succ]
                refine wpAnyH_take (i := 11) (v := .int .u64 (o : Int)) rfl (by kernel_rfl) (by kernel_rfl) (by kernel_rfl) (fun _ _ _ h => h) (Or.inl ⟨by kernel_rfl, fun u hSw => (by have q0 := hSw.1.cell 1; go_simp)⟩) hS ?_
                change wpAnyH _ _ _ _ _ _ _ (Act.put _ (some 33) _) _
                simp only [Act.put]
                try simp only [List.setIfInBounds_toArray, List.set_cons_zero, List.set_cons_succ]
                refine wpAnyH_take (i := 12) (v := .bool false) rfl (by kernel_rfl) (by kernel_rfl) (by kernel_rfl) (fun _ _ _ h => h) (Or.inl ⟨by kernel_rfl, fun u hSw => (by go_simp)⟩) hS ?_
                change wpAnyH _ _ _ _ _ _ _ (Act.put _ (some 34) _) _
                simp only [Act.put]
                try simp only [List.setIfInBounds_toArray, List.set_cons_zero, List.set_cons_succ]
                refine wpAnyH_take (i := 13) (v := .bool false) rfl (by kernel_rfl) (by kernel_rfl) (by kernel_rfl) (fun _ _ _ h => h) (Or.inl ⟨by kernel_rfl, fun u hSw => (by go_simp)⟩) hS ?_
                change wpAnyH _ _ _ _ _ _ _ (Act.put _ (some 35) _) _
                simp only [Act.put]
                try simp only [List.setIfInBounds_toArray, List.set_cons_zero, List.set_cons_succ]
                refine wpAnyH_take (i := 14) (v := .bool false) rfl (by kernel_rfl) (by kernel_rfl) (by kernel_rfl) (fun _ _ _ h => h) (Or.inl ⟨by kernel_rfl, fun u hSw => (by go_simp)⟩) hS ?_
                change wpAnyH _ _ _ _ _ _ _ (Act.put _ (some 36) _) _
                simp only [Act.put]
                try simp only [List.setIfInBounds_toArray, List.set_cons_zero, List.set_cons_succ]
                refine wpAnyH_take (i := 15) (v := .pointer (some ⟨wr.heap.size, 1, none⟩)) rfl (by kernel_rfl) (by kernel_rfl) (by kernel_rfl) (fun _ _ _ h => h) (Or.inl ⟨by kernel_rfl, fun u hSw => (by go_simp)⟩) hS ?_
                change wpAnyH _ _ _ _ _ _ _ (Act.put _ (some 37) _) _
                simp only [Act.put]
                try simp only [List.setIfInBounds_toArray, List.set_cons_zero, List.set_cons_succ]
                refine wpAnyH_take (i := 16) (v := .int .u64 (o : Int)) rfl (by kernel_rfl) (by kernel_rfl) (by kernel_rfl) (fun _ _ _ h => h) (Or.inl ⟨by kernel_rfl, fun u hSw => (by have q0 := hSw.1.cell 1; go_simp)⟩) hS ?_
                change wpAnyH _ _ _ _ _ _ _ (Act.put _ (some 38) _) _
                simp only [Act.put]
                try simp only [List.setIfInBounds_toArray, List.set_cons_zero, List.set_cons_succ]
                refine wpAnyH_take (i := 17) (v := .bool false) rfl (by kernel_rfl) (by kernel_rfl) (by kernel_rfl) (fun _ _ _ h => h) (Or.inl ⟨by kernel_rfl, fun u hSw => (by go_simp)⟩) hS ?_
                change wpAnyH _ _ _ _ _ _ _ (Act.put _ (some 39) _) _
                simp only [Act.put]
                try simp only [List.setIfInBounds_toArray, List.set_cons_zero, List.set_cons_succ]
                refine wpAnyH_take (i := 18) (v := .bool false) rfl (by kernel_rfl) (by kernel_rfl) (by kernel_rfl) (fun _ _ _ h => h) (Or.inl ⟨by kernel_rfl, fun u hSw => (by go_simp)⟩) hS ?_
                change wpAnyH _ _ _ _ _ _ _ (Act.put _ (some 40) _) _
                simp only [Act.put]
                try simp only [List.setIfInBounds_toArray, List.set_cons_zero, List.set_cons_succ]
                refine wpAnyH_take (i := 19) (v := .bool false) rfl (by kernel_rfl) (by kernel_rfl) (by kernel_rfl) (fun _ _ _ h => h) (Or.inl ⟨by kernel_rfl, fun u hSw => (by go_simp)⟩) hS ?_
                change wpAnyH _ _ _ _ _ _ _ (Act.put _ (some 41) _) _
                simp only [Act.put]
                try simp only [List.setIfInBounds_toArray, List.set_cons_zero, List.set_cons_succ]
                refine wpAnyH_take (i := 20) (v := .map (some (w.heap.size + 1))) rfl (by kernel_rfl) (by kernel_rfl) (by kernel_rfl) (fun _ _ _ h => h) (Or.inl ⟨by kernel_rfl, fun u hSw => (by go_simp)⟩) hS ?_
                change wpAnyH _ _ _ _ _ _ _ (Act.put _ (some 42) _) _
                simp only [Act.put]
                try simp only [List.setIfInBounds_toArray, List.set_cons_zero, List.set_cons_succ]
                refine wpAnyH_take (i := 21) (v := .pointer (some ⟨wr.heap.size, 1, none⟩)) rfl (by kernel_rfl) (by kernel_rfl) (by kernel_rfl) (fun _ _ _ h => h) (Or.inl ⟨by kernel_rfl, fun u hSw => (by go_simp)⟩) hS ?_
                change wpAnyH _ _ _ _ _ _ _ (Act.put _ (some 43) _) _
                simp only [Act.put]
                try simp only [List.setIfInBounds_toArray, List.set_cons_zero, List.set_cons_succ]
                refine wpAnyH_take (i := 22) (v := .int .u64 (o : Int)) rfl (by kernel_rfl) (by kernel_rfl) (by kernel_rfl) (fun _ _ _ h => h) (Or.inl ⟨by kernel_rfl, fun u hSw => (by have q0 := hSw.1.cell 1; go_simp)⟩) hS ?_
                change wpAnyH _ _ _ _ _ _ _ (Act.put _ (some 44) _) _
                simp only [Act.put]
                try simp only [List.setIfInBounds_toArray, List.set_cons_zero, List.set_cons_succ]
                refine wpAnyH_ready (rs := [23]) (by kernel_rfl) (by simp) ?_
                refine AllReadyH.cons rfl (fun K hK => ?_) AllReadyH.nil
                go_simp
                refine ((meetu_any _ _ (o : Int) _ (HSM.out.below (Below.refl _ _)) (by omega) (by omega) HLS.out).mono fun e w' h => met_yes h HIn.out).mono ?_
                rintro e5 w5 ⟨rfl, g5, m5⟩
                have HB5 := Lib.hid (HBV.out.grown g5 HBV.out.size (fun g hg => by injection hg with hg; omega))
                have HM5 : Hid (SM 41 .u64 w5 (w.heap.size + 1) (ordL (ws.take (k + 1)))) := Lib.hid (by rw [HOS.out]; exact m5)
                have hS5 : Blk w5 wr.heap.size 67 #[.int .i64 i, .int .u64 (o : Int), .bool f] ∧ Blk w5 w.heap.size 26 #[.slice (some ad) n' c] ∧ w5.cell? (ad.add (k * 5)) = some (.int .i64 i) :=
                  ⟨hS.1.grown g5 (fun e => by injection e with e; have := HZ.out; omega), hS.2.1.grown g5 (fun e => by injection e with e; omega), g5.cell hS.2.2 (fun e => by injection e with e; have := HAB.out; omega)⟩
                have HK5 := Lib.hid hS5.2.1
                clear g5 hS m5
                refine hK.out _ _ hS5 (fun hS => ?_)
                clear hK K
                refine wpAnyH_take (i := 24) (v := .bool false) rfl (by kernel_rfl) (by kernel_rfl) (by kernel_rfl) (fun _ _ _ h => h) (Or.inl ⟨by kernel_rfl, fun u hSw => (by go_simp)⟩) hS ?_
                change wpAnyH _ _ _ _ _ _ _ (Act.put _ (some 46) _) _
                simp only [Act.put]
                try simp only [List.setIfInBounds_toArray, List.set_cons_zero, List.set_cons_succ]
                refine wpAnyH_take (i := 25) (v := .bool false) rfl (by kernel_rfl) (by kernel_rfl) (by kernel_rfl) (fun _ _ _ h => h) (Or.inl ⟨by kernel_rfl, fun u hSw => (by go_simp)⟩) hS ?_
                change wpAnyH _ _ _ _ _ _ _ (Act.put _ (some 47) _) _
                simp only [Act.put]
                try simp only [List.setIfInBounds_toArray, List.set_cons_zero, List.set_cons_succ]
                refine wpAnyH_done (by kernel_rfl) ?_ _
                clear hS
                go_wp2_with fail
                go_roundw
                case rel => exact ⟨k + 1, by omega, by go_num, HA2, HM5, HK5, HB5.out⟩
                case measure => simp [intOf] <;> omega
        · have c1d : (i != ri) = true := by simpa using c1
          have HV : Hid (waitsB qs ws = false) := Lib.hid (waits_no HKL.out (wOk_no HY.out HX.out (.inl c1)))
          clear K1 B1 KQ M1 ho c1
          go_wp2_with fail
          go_quiet (fail)
          go_wp2_with fail
          go_ret
          exact ⟨retB HV.out.symm, below_drewN HB1.out _⟩
      · obtain rfl : k = n' := by omega
        have HV : Hid (waitsB qs ws = true) := Lib.hid (waits_yes (by rw [HL.out, HL'.out]) fun q hq => HA.out q (by rw [HL'.out] at hq; exact hq))
        go_wp2
        go_ret
        exact ⟨retB HV.out.symm, hB⟩
  · have HV : Hid (waitsB qs ws = false) := Lib.hid (waits_len (by rw [HL.out, HL'.out]; exact hnn))
    have c1 : ((n' : Int) != (n : Int)) = true := by simp; omega
    have c2 : (n' != n) = true := by simpa using hnn
    have z0 := K0.cell 0
    have HB := Lib.hid GB
    clear K0 GB hmm hnn
    go_enter Try.func43, Try.ntmps43
    go_wp2_with fail
    go_ret
    exact ⟨retB HV.out.symm, HB.out⟩

end Go.Proofs.Ytngbamoffjlodaa
/-
  Entities: what may be said of all of them: plain mathematics. No statement is proved here.
-/
namespace Go.Proofs.Ytngbamoffjlodaa
open Go.RowKit

/-- runners with their waits, that may be -/
structure LG (L : List Pt) : Prop where
  rise : Rise L
  right : ∀ p ∈ L, rightB p.2.1.2.1 p.2.1.2.2.2 = true
  u64 : ∀ p ∈ L, p.2.1.2.1 < 2 ^ 64 ∧ p.2.1.2.2.1 < 2 ^ 64 ∧ p.2.1.2.2.2 < 2 ^ 64
  ids : ∀ p ∈ L, 1 ≤ p.1 ∧ p.1 ≤ 16
  ord : ∀ p ∈ L, p.2.2.1 ≤ 4611686018427387904
theorem pts_mem {qs : List Rn} {ws : List Wt} {p : Pt} (h : p ∈ pts qs ws) : ∃ (k : Nat) (r : Rn) (w : Wt), qs[k]? = some r ∧ ws[k]? = some w ∧ p = (r.1, r.2, w.2) := by
  obtain ⟨k, hk⟩ := List.mem_iff_getElem?.1 h
  unfold pts at hk
  rw [List.getElem?_zipWith] at hk
  cases hq : qs[k]? with
  | none => rw [hq] at hk; cases hk
  | some r =>
    cases hw : ws[k]? with
    | none => rw [hq, hw] at hk; cases hk
    | some w =>
      rw [hq, hw] at hk
      exact ⟨k, r, w, hq, hw, (Option.some.inj hk).symm⟩
theorem lg_of {qs : List Rn} {ws : List Wt} (hU : UQ qs) (hQ : RQ qs) (hW : WR qs ws) : LG (pts qs ws) := by
  refine ⟨pts_rise hW.len hQ.rise, fun p hp => ?_, fun p hp => ?_, fun p hp => ?_, fun p hp => ?_⟩
  · obtain ⟨k, r, w, hq, hw, rfl⟩ := pts_mem hp
    have hm := List.mem_of_getElem? hq
    have h1 := rightR_iff.1 (hQ.each r hm)
    have q := rightN_of (h := r.2.2.1) (x := r.2.2.2.2) (hU r hm).2.1
    exact q.symm.trans (rightN_yes h1.2.2.1.1 h1.2.2.1.2 h1.2.2.2)
  · obtain ⟨k, r, w, hq, hw, rfl⟩ := pts_mem hp
    exact hU r (List.mem_of_getElem? hq)
  · obtain ⟨k, r, w, hq, hw, rfl⟩ := pts_mem hp
    exact (rightR_iff.1 (hQ.each r (List.mem_of_getElem? hq))).1
  · obtain ⟨k, r, w, hq, hw, rfl⟩ := pts_mem hp
    exact (hW.each k w r hw hq).2.2
section
variable {L ps : List Pt}
theorem LG.times (h : LG L) (hs : ∀ p ∈ ps, p ∈ L) : allB (timesP ps) = true ∧ Small (timesP ps) := by
  refine ⟨?_, fun k p q x hk => ?_⟩
  · unfold allB
    rw [List.all_eq_true]
    intro f hf
    obtain ⟨p, hp, rfl⟩ := List.mem_map.1 hf
    exact h.right p (hs p hp)
  · obtain ⟨y, hy, e⟩ := List.mem_map.1 (List.mem_of_getElem? hk)
    have := h.u64 y (hs y hy)
    rw [e] at this
    exact this
theorem tmaxP_mem (h : LG L) (hs : ∀ p ∈ ps, p ∈ L) (h0 : 0 < ps.length) : ∃ p ∈ ps, tmaxP ps = p.2.1.2 := by
  obtain ⟨a, b, x, hk⟩ := topI_at (l := timesP ps) (by unfold timesP; rw [List.length_map]; exact h0) (h.times hs).1
  obtain ⟨p, hp, e⟩ := List.mem_map.1 (List.mem_of_getElem? hk)
  exact ⟨p, hp, by unfold tmaxP; rw [getD_at hk]; exact e.symm⟩
theorem join_facts (h : LG L) (hs : ∀ p ∈ ps, p ∈ L) (h0 : 0 < ps.length) : canE (joinP ps) = true ∧ (joinP ps).2.1.1 < 2 ^ 64 ∧ (joinP ps).2.1.2.1 < 2 ^ 64 ∧ (joinP ps).2.1.2.2 < 2 ^ 64 := by
  obtain ⟨p, hp, e⟩ := tmaxP_mem h hs h0
  have hu := h.u64 p (hs p hp)
  have e2 : (joinP ps).2.1 = p.2.1.2 := e
  rw [e2]
  refine ⟨canE_iff.2 ⟨by show 0 < (idsP ps).length; unfold idsP; rw [List.length_map]; exact h0, ?_⟩, hu⟩
  rw [e2]
  unfold fN fW
  rw [rightN_of hu.2.1]
  exact h.right p (hs p hp)
theorem takeP_sub {g : List Int} : ∀ p ∈ takeP L g, p ∈ L := by
  intro p hp
  unfold takeP at hp
  obtain ⟨i, _, hk⟩ := List.mem_filterMap.1 hp
  exact (kf_some hk).1
theorem mkP_mem {x : Et} (h : x ∈ mkP ps) : 0 < ps.length ∧ x = joinP ps := by
  unfold mkP at h
  split at h
  · cases h
  · rename_i hne
    exact ⟨List.length_pos_iff.2 hne, by simpa using h⟩
/-- each entity is that of some that are there -/
theorem ents_of {gs : List (List Int)} {x : Et} (h : x ∈ entsP L gs) : ∃ ps : List Pt, 0 < ps.length ∧ (∀ p ∈ ps, p ∈ L) ∧ x = joinP ps := by
  unfold entsP at h
  rcases List.mem_append.1 h with h | h
  · unfold gangE at h
    obtain ⟨g, _, hx⟩ := List.mem_flatMap.1 h
    obtain ⟨h1, h2⟩ := mkP_mem hx
    exact ⟨_, h1, takeP_sub, h2⟩
  · unfold singE at h
    obtain ⟨p, hp, hx⟩ := List.mem_flatMap.1 h
    split at hx
    · exact ⟨[p], by simp, by simpa using hp, by simpa using hx⟩
    · cases hx
theorem ents_facts (hL : LG L) {gs : List (List Int)} {x : Et} (h : x ∈ entsP L gs) : canE x = true ∧ x.2.1.1 < 2 ^ 64 ∧ x.2.1.2.1 < 2 ^ 64 ∧ x.2.1.2.2 < 2 ^ 64 := by
  obtain ⟨ps, h0, hs, rfl⟩ := ents_of h
  exact join_facts hL hs h0
end
/-! ### all members -/
theorem mkP_ids (ps : List Pt) : (mkP ps).flatMap (fun x => x.1) = idsP ps := by
  unfold mkP
  split
  · rename_i h; subst h; rfl
  · simp [joinP]
theorem gang_ids (L : List Pt) : ∀ gs : List (List Int), (gangE L gs).flatMap (fun x => x.1) = gs.flatten.filter fun i => (kf L i).isSome
  | [] => rfl
  | g :: gs => by
    have ih := gang_ids L gs
    unfold gangE at ih ⊢
    rw [List.flatMap_cons, List.flatMap_append, ih, mkP_ids, takeP_ids, List.flatten_cons, List.filter_append]
theorem sing_ids (gs : List (List Int)) : ∀ L : List Pt, (singE gs L).flatMap (fun x => x.1) = (idsP L).filter (aloneB gs)
  | [] => rfl
  | p :: L => by
    have ih := sing_ids gs L
    unfold singE at ih ⊢
    rw [List.flatMap_cons, List.flatMap_append, ih]
    show _ = (p.1 :: idsP L).filter (aloneB gs)
    rw [List.filter_cons]
    split
    · simp [joinP, idsP]
    · simp
theorem rise_nodup {l : List Int} (h : l.Pairwise (· < ·)) : l.Nodup := h.imp fun hab e => by omega
theorem GR.flat_nodup {gs : List (List Int)} (h : GR gs) : gs.flatten.Nodup := by
  unfold List.Nodup
  rw [List.pairwise_flatten]
  exact ⟨fun g hg => rise_nodup (h.rise g hg), h.apart⟩
theorem ids_nodup {L : List Pt} (hL : LG L) {gs : List (List Int)} (hG : GR gs) : ((entsP L gs).flatMap fun x => x.1).Nodup := by
  unfold entsP
  rw [List.flatMap_append, gang_ids, sing_ids, List.nodup_append]
  refine ⟨hG.flat_nodup.sublist List.filter_sublist, (rise_nodup (rise_ids.1 hL.rise)).sublist List.filter_sublist, fun a ha b hb e => ?_⟩
  subst e
  have h1 := (List.mem_filter.1 ha).1
  have h2 := (List.mem_filter.1 hb).2
  obtain ⟨g, hg, hx⟩ := List.mem_flatten.1 h1
  exact aloneB_iff.1 h2 g hg hx
theorem ids_mem {L : List Pt} (hL : LG L) {gs : List (List Int)} {i : Int} : i ∈ (entsP L gs).flatMap (fun x => x.1) ↔ i ∈ idsP L := by
  unfold entsP
  rw [List.flatMap_append, gang_ids, sing_ids, List.mem_append, List.mem_filter, List.mem_filter]
  have hk : (kf L i).isSome = true ↔ i ∈ idsP L := by
    constructor
    · intro h
      obtain ⟨p, hp⟩ := Option.isSome_iff_exists.1 h
      exact List.mem_map.2 ⟨p, (kf_some hp).1, (kf_some hp).2⟩
    · intro h
      obtain ⟨p, hp, e⟩ := List.mem_map.1 h
      rw [← e, kf_mem hL.rise hp]
      rfl
  rw [hk]
  constructor
  · rintro (h | h)
    · exact h.2
    · exact h.1
  · intro h
    cases ha : aloneB gs i with
    | true => exact .inr ⟨h, rfl⟩
    | false =>
      left
      unfold aloneB at ha
      have ha2 : (gs.any fun g => decide (i ∈ g)) = true := by simpa using ha
      obtain ⟨g, hg, hx⟩ := List.any_eq_true.1 ha2
      exact ⟨List.mem_flatten.2 ⟨g, hg, by simpa using hx⟩, h⟩
theorem nodup_apart {l : List Et} (h : (l.flatMap fun x => x.1).Nodup) : l.Pairwise fun a b => ∀ i ∈ a.1, ∀ j ∈ b.1, i ≠ j := by
  unfold List.Nodup at h
  rw [List.pairwise_flatMap] at h
  exact h.2
theorem first_mem {x : Et} (h : canE x = true) : firstE x ∈ x.1 := by
  have h0 := (canE_iff.1 h).1
  unfold firstE
  rw [List.getD_eq_getElem?_getD, List.getElem?_eq_getElem h0]
  exact List.getElem_mem _
theorem apart_one {l : List Et} (h : l.Pairwise fun a b => ∀ i ∈ a.1, ∀ j ∈ b.1, i ≠ j) {a b : Et} (ha : a ∈ l) (hb : b ∈ l) {i : Int} (h1 : i ∈ a.1) (h2 : i ∈ b.1) : a = b := by
  obtain ⟨p, hp⟩ := List.mem_iff_getElem.1 ha
  obtain ⟨q, hq⟩ := List.mem_iff_getElem.1 hb
  obtain ⟨hpl, rfl⟩ := hp
  obtain ⟨hql, rfl⟩ := hq
  rcases Nat.lt_trichotomy p q with hlt | heq | hlt
  · exact absurd rfl ((List.pairwise_iff_getElem.1 h) p q hpl hql hlt i h1 i h2)
  · subst heq; rfl
  · exact absurd rfl ((List.pairwise_iff_getElem.1 h) q p hql hpl hlt i h2 i h1)
theorem ents_diff {L : List Pt} (hL : LG L) {gs : List (List Int)} (hG : GR gs) : Diff (entsP L gs) := by
  intro a ha b hb h
  have hl := stand_zero.1 h
  unfold likeE at hl
  simp only [Bool.and_eq_true, beq_iff_eq] at hl
  have h1 := first_mem (ents_facts hL ha).1
  have h2 := first_mem (ents_facts hL hb).1
  rw [hl.2] at h1
  exact apart_one (nodup_apart (ids_nodup hL hG)) ha hb h1 h2
/-- what sorting leads to -/
theorem ents_sorted {L : List Pt} (hL : LG L) {gs : List (List Int)} (hG : GR gs) {m : List Et} (hp : m.Perm (entsP L gs)) (hs : m.Pairwise leE) : m = sortE (entsP L gs) :=
  sorted_eq (ents_diff hL hG) hp hs fun _ hy => (ents_facts hL hy).1

end Go.Proofs.Ytngbamoffjlodaa
