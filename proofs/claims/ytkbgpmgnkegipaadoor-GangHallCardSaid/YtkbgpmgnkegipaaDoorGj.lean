/-
  The landed gang: areMembers, Check. No statement is proved here.
-/
import Derived.Test.YtkbgpmgnkegipaaDoorGi
namespace Go.Proofs.YtkbgpmgnkegipaaDoor
open Go.RowKit Go.Maps

def riseI : Int → List Int → Bool
  | _, [] => true
  | a, x :: l => decide (a < x) && decide (x ≤ 16) && riseI x l
theorem riseI_at {last : Int} {l : List Int} {k : Nat} {x : Int} (h : l[k]? = some x) : riseI last (l.drop k) = (decide (last < x) && decide (x ≤ 16) && riseI x (l.drop (k + 1))) := by
  have hk := (List.getElem?_eq_some_iff.1 h).1
  have e : l.drop k = x :: l.drop (k + 1) := by rw [List.drop_eq_getElem_cons hk, (List.getElem?_eq_some_iff.1 h).2]
  rw [e]
  rfl
/-- what came last -/
def lastI (is : List Int) : Nat → Int
  | 0 => 0
  | k + 1 => is.getD k 0
theorem lastI_at {is : List Int} {k : Nat} {x : Int} (h : is[k]? = some x) : lastI is (k + 1) = x := by show is.getD k 0 = x; rw [List.getD_eq_getElem?_getD, h]; rfl
def membersB (l : List Int) : Bool := decide (2 ≤ l.length) && decide (l.length ≤ 8) && riseI 0 l

set_option maxRecDepth 100000 in
set_option maxHeartbeats 4000000 in
theorem members_any (A : Option Addr) (n c : Nat) (is : List Int) (w : World) (hI : IR w A n is) :
    Calls Tryd.prog 45 #[.slice A n c] w (Said (.bool (membersB is)) w) := by
  have HR := Lib.hid hI
  have HL := Lib.hid hI.len
  have n9 := hI.small
  have hl := hI.len
  clear hI
  by_cases h2 : n < 2
  · have q : decide ((n : Int) < 2) = true := decide_eq_true (by omega)
    have HV : Hid (membersB is = false) := Lib.hid (by unfold membersB; rw [hl, decide_eq_false (by omega)]; rfl)
    clear h2 hl
    go_enter Tryd.func45, Tryd.ntmps45
    go_wp2_with fail
    go_ret
    exact ⟨retB HV.out.symm, Below.refl _ _⟩
  · have q : decide ((n : Int) < 2) = false := decide_eq_false (by omega)
    by_cases h8 : 8 < n
    · have q2 : decide ((8 : Int) < (n : Int)) = true := decide_eq_true (by omega)
      have HV : Hid (membersB is = false) := Lib.hid (by unfold membersB; rw [hl, decide_eq_false (show ¬ n ≤ 8 by omega), Bool.and_false]; rfl)
      clear h2 hl h8
      go_enter Tryd.func45, Tryd.ntmps45
      go_wp2_with fail
      go_ret
      exact ⟨retB HV.out.symm, Below.refl _ _⟩
    · have q2 : decide ((8 : Int) < (n : Int)) = false := decide_eq_false (by omega)
      have HV : Hid (membersB is = riseI 0 is) := Lib.hid (by unfold membersB; rw [hl, decide_eq_true (show n ≤ 8 by omega), decide_eq_true (show 2 ≤ n by omega)]; rfl)
      clear h2 hl h8
      go_enter Tryd.func45, Tryd.ntmps45
      go_wp2_with fail
      go_loopw [3, 16] (fun lv iv wr => ∃ k : Nat, k ≤ n ∧ lv = .int .i64 (lastI is k) ∧ iv = .int .i64 (k : Int) ∧ Hid (riseI 0 is = riseI (lastI is k) (is.drop k)) ∧ Below w.heap.size w wr) (fun _ iv _ => n - (intOf iv).toNat)
      case atStart => exact ⟨0, by omega, rfl, rfl, Lib.hid rfl, Below.refl _ _⟩
      case round =>
        obtain ⟨k, hk, rfl, rfl, HP, hB⟩ := hrel
        by_cases hlt : k < n
        · obtain ⟨x, hx⟩ := elem_at (l := is) (k := k) (by rw [HL.out]; exact hlt)
          obtain ⟨ad, rfl, _, d0⟩ := (HR.out.below hB).at_ hx
          have HN := Lib.hid (HP.out.trans (riseI_at hx))
          have HLx := Lib.hid (lastI_at hx)
          obtain ⟨last, hlast⟩ : ∃ l, lastI is k = l := ⟨_, rfl⟩
          rw [hlast] at HN ⊢
          have i1 : (0 : Int) ≤ (k : Int) := by omega
          have i2 : (k : Int) < (n : Int) := by omega
          have HB := Lib.hid hB
          clear hx hB hlast HP
          by_cases h1 : x ≤ last
          · have c1 : decide (x ≤ last) = true := decide_eq_true h1
            have HF : Hid (riseI 0 is = false) := Lib.hid (by rw [HN.out, decide_eq_false (by omega)]; rfl)
            go_wp2_with fail
            go_ret
            exact ⟨retB (by rw [HV.out, HF.out]), HB.out⟩
          · have c1 : decide (x ≤ last) = false := decide_eq_false h1
            by_cases h3 : 16 < x
            · have c2 : decide (16 < x) = true := decide_eq_true h3
              have HF : Hid (riseI 0 is = false) := Lib.hid (by rw [HN.out, decide_eq_false (show ¬ x ≤ 16 by omega), Bool.and_false]; rfl)
              go_wp2_with fail
              go_ret
              exact ⟨retB (by rw [HV.out, HF.out]), HB.out⟩
            · have c2 : decide (16 < x) = false := decide_eq_false h3
              have HP2 : Hid (riseI 0 is = riseI (lastI is (k + 1)) (is.drop (k + 1))) := Lib.hid (by rw [HN.out, HLx.out, decide_eq_true (show last < x by omega), decide_eq_true (show x ≤ 16 by omega)]; rfl)
              go_wp2_with fail
              go_roundw
              case rel => exact ⟨k + 1, by omega, by rw [HLx.out], by go_num, HP2, HB.out⟩
              case measure => simp [intOf] <;> omega
        · obtain rfl : k = n := by omega
          have HF : Hid (riseI 0 is = true) := Lib.hid (by rw [HP.out, ← HL.out, List.drop_length]; rfl)
          go_wp2
          go_ret
          exact ⟨retB (by rw [HV.out, HF.out]), hB⟩

/-! ### which gangs may be -/
def lastG (l : List Gm) : Nat → Int
  | 0 => 0
  | k + 1 => (l.getD k (0, [])).1
def okG (l : List Gm) (k : Nat) (g : Gm) : Bool := decide (lastG l k < g.1) && decide (g.1 ≤ 8) && membersB g.2 && !((l.take k).any fun h => havB g.2 h)
def rightK (l : List Gm) (k : Nat) : Bool := (List.range k).all fun j => okG l j (l.getD j (0, []))
def rightG (l : List Gm) : Bool := rightK l l.length
theorem lastG_at {l : List Gm} {k : Nat} {g : Gm} (h : l[k]? = some g) : lastG l (k + 1) = g.1 := by show (l.getD k (0, [])).1 = g.1; rw [List.getD_eq_getElem?_getD, h]; rfl
theorem rightK_step {l : List Gm} {k : Nat} {g : Gm} (h : l[k]? = some g) : rightK l (k + 1) = (rightK l k && okG l k g) := by
  unfold rightK
  rw [List.range_succ, List.all_append]
  simp only [List.all_cons, List.all_nil, Bool.and_true]
  rw [List.getD_eq_getElem?_getD, h]
  rfl
theorem right_no {l : List Gm} {k : Nat} {g : Gm} (h : l[k]? = some g) (hg : okG l k g = false) : rightG l = false := by
  have hk := (List.getElem?_eq_some_iff.1 h).1
  unfold rightG rightK
  rw [List.all_eq_false]
  exact ⟨k, List.mem_range.2 hk, by rw [List.getD_eq_getElem?_getD, h]; simp [hg]⟩
def chkG (l : List Gm) : Int := if rightG l = true then 0 else 240

set_option maxRecDepth 100000 in
set_option maxHeartbeats 8000000 in
theorem gcheck_any (A : Option Addr) (n c : Nat) (gs : List Gn) (w : World) (hG : NW w A n gs) (hc : n ≤ c) :
    Calls Tryd.prog 44 #[.agg #[.slice A n c]] w (Said (.int .i64 (chkG (gsM gs))) w) := by
  have n9 : n ≤ 100 := hG.small
  have HL := Lib.hid hG.len
  have HG := Lib.hid hG
  obtain ⟨K0, GB⟩ := box1 w 36 #[.slice A n c]
  have HK := Lib.hid K0
  have c0 := K0.cell 0
  have hgs : w.heap.size < (w.alloc (.cells #[.slice A n c] 36)).heap.size := by simp
  clear hG K0
  go_enter Tryd.func44, Tryd.ntmps44
  go_wp2_with fail
  clear c0
  generalize w.alloc (.cells #[.slice A n c] 36) = w1 at *
  go_loopw [3, 9] (fun lv iv wr => ∃ k : Nat, k ≤ n ∧ lv = .int .i64 (lastG (gsM gs) k) ∧ iv = .int .i64 (k : Int) ∧ Hid (rightK (gsM gs) k = true) ∧ Below w1.heap.size w1 wr) (fun _ iv _ => n - (intOf iv).toNat)
  case atStart => exact ⟨0, by omega, rfl, rfl, Lib.hid rfl, Below.refl _ _⟩
  case round =>
    obtain ⟨k, hk, rfl, rfl, HP, hB⟩ := hrel
    by_cases hlt : k < n
    · obtain ⟨⟨id, A2, m, c2, is⟩, hx⟩ := elem_at (l := gs) (k := k) (by rw [HL.out]; exact hlt)
      have hbw := GB.trans (hB.mono GB.size)
      obtain ⟨ad, rfl, _, d0, d1⟩ := (HG.out.below hbw).at_ hx
      have hI := (HG.out.below hbw).each _ (List.mem_of_getElem? hx)
      have hX := gsM_at hx
      have hok : okG (gsM gs) k (id, is) = (decide (lastG (gsM gs) k < id) && decide (id ≤ 8) && membersB is && !(((gsM gs).take k).any fun h => havB is h)) := rfl
      have HX : Hid ((gsM gs)[k]? = some (id, is) ∧ rightK (gsM gs) (k + 1) = okG (gsM gs) k (id, is) ∧ okG (gsM gs) k (id, is) = (decide (lastG (gsM gs) k < id) && decide (id ≤ 8) && membersB is && !(((gsM gs).take k).any fun h => havB is h))) := Lib.hid ⟨hX, by rw [rightK_step hX, HP.out]; rfl, hok⟩
      have HLx : Hid (lastG (gsM gs) (k + 1) = id) := Lib.hid (lastG_at hX)
      obtain ⟨last, hlast⟩ : ∃ l, lastG (gsM gs) k = l := ⟨_, rfl⟩
      rw [hlast] at HX ⊢
      obtain ⟨KR, GR⟩ := box1 wr 54 #[.int .i64 id, .slice A2 m c2]
      have HMe := Lib.hid (members_any A2 m c2 is _ (hI.1.below GR))
      have r0 := KR.cell 0
      have r1 := KR.cell 1
      have hg1 : w.heap.size < wr.heap.size := Nat.lt_of_lt_of_le hgs hB.size
      have i1 : (0 : Int) ≤ (k : Int) := by omega
      have i2 : (k : Int) < (n : Int) := by omega
      have HB := Lib.hid hbw
      have HBR := Lib.hid GR
      have HB1 := Lib.hid hB
      have HIR := Lib.hid hI.1
      have HKR := Lib.hid KR
      clear hx hX hok hI hbw hlast hB KR GR HP
      by_cases h1 : id ≤ last
      · have c1 : decide (id ≤ last) = true := decide_eq_true h1
        have HF : Hid (chkG (gsM gs) = 240) := Lib.hid (by unfold chkG; rw [right_no HX.out.1 (by rw [HX.out.2.2, decide_eq_false (by omega)]; rfl)]; rfl)
        clear HMe
        go_wp2_with fail
        go_ret
        rw [HF.out]
        exact ⟨rfl, HB.out.trans (HBR.out.mono HB.out.size)⟩
      · have c1 : decide (id ≤ last) = false := decide_eq_false h1
        by_cases h2 : 8 < id
        · have c2' : decide (8 < id) = true := decide_eq_true h2
          have HF : Hid (chkG (gsM gs) = 240) := Lib.hid (by unfold chkG; rw [right_no HX.out.1 (by rw [HX.out.2.2, decide_eq_false (show ¬ id ≤ 8 by omega), Bool.and_false]; rfl)]; rfl)
          clear HMe
          go_wp2_with fail
          go_ret
          rw [HF.out]
          exact ⟨rfl, HB.out.trans (HBR.out.mono HB.out.size)⟩
        · have c2' : decide (8 < id) = false := decide_eq_false h2
          cases hm : membersB is with
          | false =>
            rw [hm] at HMe
            have HF : Hid (chkG (gsM gs) = 240) := Lib.hid (by unfold chkG; rw [right_no HX.out.1 (by rw [HX.out.2.2, hm, Bool.and_false]; rfl)]; rfl)
            clear hm
            go_wp2_with fail
            refine HMe.out.mono ?_
            rintro e w3 ⟨rfl, h9⟩
            clear r0 r1 d0 d1
            go_wp2
            go_ret
            rw [HF.out]
            exact ⟨rfl, HB.out.trans ((HBR.out.trans (h9.mono HBR.out.size)).mono HB.out.size)⟩
          | true =>
            rw [hm] at HMe
            have HO2 : Hid (okG (gsM gs) k (id, is) = !(((gsM gs).take k).any fun h => havB is h)) := Lib.hid (by rw [HX.out.2.2, hm, decide_eq_true (show last < id by omega), decide_eq_true (show id ≤ 8 by omega)]; rfl)
            clear hm
            go_wp2_with fail
            refine HMe.out.mono ?_
            rintro e w3 ⟨rfl, h9⟩
            have HKR3 := Lib.hid (HKR.out.below h9 HKR.out.lt)
            have HK3 : Hid (Blk w3 w.heap.size 36 #[.slice (some ad) n c]) := Lib.hid (((HK.out.below HB1.out hgs).below HBR.out hg1).below h9 (Nat.lt_of_lt_of_le hg1 HBR.out.size))
            have HB3 := Lib.hid (HB.out.trans ((HBR.out.trans (h9.mono HBR.out.size)).mono HB.out.size))
            have HI3 := Lib.hid (HIR.out.below (HBR.out.trans (h9.mono HBR.out.size)))
            have HB13 := Lib.hid (HB1.out.trans ((HBR.out.trans (h9.mono HBR.out.size)).mono HB1.out.size))
            have hg3 : w.heap.size < w3.heap.size ∧ wr.heap.size < w3.heap.size := ⟨HK3.out.lt, HKR3.out.lt⟩
            clear h9 r0 r1 d0 d1
            have HS : Hid (∀ u, Below w3.heap.size w3 u → u.cell? ⟨w.heap.size, 0, none⟩ = some (.slice (some ad) n c) ∧ u.cell? ⟨wr.heap.size, 1, none⟩ = some (.slice A2 m c2)) := Lib.hid (fun u hu => ⟨(HK3.out.below hu hg3.1).cell 0, (HKR3.out.below hu hg3.2).cell 1⟩)
            have HHf := Lib.hid (fun (u : World) (hu : Below w3.heap.size w3 u) => havingf_any A2 m c2 is u (HI3.out.below hu))
            have HHa := Lib.hid (fun (u : World) (hu : Below w3.heap.size w3 u) (vb : Nat) (h : HV u vb A2 m c2 is) => hasany_any (some ad) k c (gs.take k) u (((HG.out.below HB3.out).below hu).take (by omega)) vb A2 m c2 is h)
            rw [gsM_take] at HHa
            obtain ⟨b, hb⟩ : ∃ b, (((gsM gs).take k).any fun h => havB is h) = b := ⟨_, rfl⟩
            rw [hb] at HHa HO2
            have D0 := (Below.refl w3.heap.size w3).drew
            have k0 := HS.out _ D0
            have i3 : (k : Int) ≤ (c : Int) := by omega
            clear hb
            go_upto_region 7 with fail
            go_region_held3 (fun w' => w'.cell? ⟨w.heap.size, 0, none⟩ = some (.slice (some ad) n c) ∧ w'.cell? ⟨wr.heap.size, 1, none⟩ = some (.slice A2 m c2))
              (first | exact k2 | exact k1 | exact k0)
              (first
                | (go_at_call 46; (with_reducible refine (HHa.out _ D1 vb hv1).mono ?_); rintro e w5 ⟨rfl, h9⟩; have D2 := Lib.hid (D1.trans (h9.mono D1.size)); have k2 := HS.out _ D2.out; clear h9)
                | (go_at_call 47; (with_reducible refine (HHf.out _ D0).mono ?_); rintro e w4 ⟨vb, rfl, hv1, h9⟩; have D1 := D0.trans (h9.mono D0.size); have k1 := HS.out _ D1; clear h9))
            have r0 := (HKR3.out.below D2.out hg3.2).cell 0
            have HBE := Lib.hid (HB3.out.trans (D2.out.mono HB3.out.size))
            have HBE1 := Lib.hid (HB13.out.trans (D2.out.mono HB13.out.size))
            clear k0 k1 k2 D0 D1 hv1
            cases b with
            | true =>
              have HF : Hid (chkG (gsM gs) = 240) := Lib.hid (by unfold chkG; rw [right_no HX.out.1 (by rw [HO2.out]; rfl)]; rfl)
              clear r0
              go_wp2
              go_ret
              rw [HF.out]
              exact ⟨rfl, HBE.out⟩
            | false =>
              have HP2 : Hid (rightK (gsM gs) (k + 1) = true) := Lib.hid (by rw [HX.out.2.1, HO2.out]; rfl)
              go_wp2_with fail
              go_roundw
              case rel => exact ⟨k + 1, by omega, by rw [HLx.out], by go_num, HP2, HBE1.out⟩
              case measure => simp [intOf] <;> omega
    · obtain rfl : k = n := by omega
      have HF : Hid (chkG (gsM gs) = 0) := Lib.hid (by
        unfold chkG rightG
        rw [gsM_len, HL.out, HP.out]
        rfl)
      go_wp2
      go_ret
      rw [HF.out]
      exact ⟨rfl, GB.trans (hB.mono GB.size)⟩

end Go.Proofs.YtkbgpmgnkegipaaDoor
