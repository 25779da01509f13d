/-
  The document's stuck: the first of so many places that are stuck, behind some. No statement is proved here.
-/
import Derived.Test.YtkbgpmgnkegipaaDoorDf
import Derived.Test.YtkbgpmgnkegipaaDoorMd
import Derived.Test.YtkbgpmgnkegipaaDoorGr
namespace Go.Proofs.YtkbgpmgnkegipaaDoor
open Go.RowKit Go.Maps

theorem nil_some' (ad : Addr) (m c : Nat) (u : World) : (binOp .neq 27 (.slice (some ad) m c) (.slice none 0 0)).run Tryd.prog u = .ok (.bool true) u := by kernel_rfl
theorem nil_none' (u : World) : (binOp .neq 27 (.slice none 0 0) (.slice none 0 0)).run Tryd.prog u = .ok (.bool false) u := by kernel_rfl
theorem kids_split (N : Nat) (p : List Int) : ∀ {j : Nat}, nxt p ≤ j → j < N → ∃ t, kids N p = kidsTo p j ++ (p ++ [(j : Int)]) :: t := by
  intro j h1 h2
  obtain ⟨d, rfl⟩ : ∃ d, N = j + 1 + d := ⟨N - j - 1, by omega⟩
  clear h2
  induction d with
  | zero => exact ⟨[], by unfold kids; rw [kidsTo_step p h1]⟩
  | succ d ih =>
    obtain ⟨t, ht⟩ := ih
    refine ⟨t ++ [p ++ [((j + 1 + d : Nat) : Int)]], ?_⟩
    unfold kids at ht ⊢
    rw [show j + 1 + (d + 1) = (j + 1 + d) + 1 by omega, kidsTo_step p (by omega), ht, List.append_assoc]
    rfl
theorem desc_find (N : Nat) (f : List Int → Bool) (d : Nat) (p : List Int) : (desc N (d + 1) p).find? f = (kids N p).findSome? fun q => (desc N d q).find? f := by
  show ((kids N p).flatMap (desc N d)).find? f = _
  rw [List.find?_flatMap]
/-- what a search answers -/
def SSaid (r : Option (List Int)) (w : World) (e : Ending) (w' : World) : Prop := Below w.heap.size w w' ∧ match r with
  | none => e = .returned (.slice none 0 0)
  | some m => ∃ ad n c, e = .returned (.slice (some ad) n c) ∧ IR w' (some ad) n m

set_option maxRecDepth 100000 in
set_option maxHeartbeats 16000000 in
theorem rstuck_any (A : Option Addr) (n c : Nat) (l : List Int) (hl : l.length = n) (hn8 : n ≤ 8) (h256 : ∀ x ∈ l, x < 256) : ∀ (d : Nat) (w : World) (p : List Int) (Ap : Option Addr) (k cp : Nat), SW w A n l → IR w Ap k p → Rising n p → k + d ≤ 100 →
    Calls Tryd.prog 22 #[.slice A n c, .slice Ap k cp, .int .i64 ((k + d : Nat) : Int)] w (SSaid ((desc n d p).find? (stuckB l)) w) := by
  intro d
  induction d with
  | zero =>
    intro w p Ap k cp hG hI hri _
    have HG := Lib.hid hG
    have HL := Lib.hid hl
    have HSM := Lib.hid h256
    have HI := Lib.hid hI
    have HIL := Lib.hid hI.len
    have HRI := Lib.hid hri
    have hlow := hri.low
    have hk8 : k ≤ 8 := by have := hri.len; have := hI.len; omega
    rw [Nat.add_zero]
    have e0 : ((k : Int) == (k : Int)) = true := by simp
    have HV : Hid ((desc n 0 p).find? (stuckB l) = if stuckB l p = true then some p else none) := Lib.hid (by
      show [p].find? (stuckB l) = _
      rw [List.find?_cons]
      cases stuckB l p <;> rfl)
    clear hG hI hri h256 hl hlow
    go_enter Tryd.func22, Tryd.ntmps22
    go_wp2_with fail
    go_loop [7, 20] (fun tv iv => ∃ q : Nat, q ≤ k ∧ tv = .int .u32 ((orN l (p.take q) : Nat) : Int) ∧ iv = .int .i64 (q : Int)) (fun _ iv => k - (intOf iv).toNat)
    case atStart => exact ⟨0, by omega, rfl, rfl⟩
    case round =>
      obtain ⟨q, hq, rfl, rfl⟩ := hrel
      by_cases hlt : q < k
      · obtain ⟨i, hi⟩ := elem_at (l := p) (k := q) (by rw [HIL.out]; exact hlt)
        obtain ⟨adp, hadp, _, c1⟩ := HI.out.at_ hi
        subst hadp
        have hi0 := HRI.out.place i (List.mem_of_getElem? hi)
        have hlow := HRI.out.low
        obtain ⟨r, hr⟩ : ∃ r : Nat, i = (r : Int) := ⟨i.toNat, by omega⟩
        subst hr
        obtain ⟨s, hs⟩ := elem_at (l := l) (k := r) (by rw [HL.out]; omega)
        obtain ⟨ad, had, _, c2⟩ := HG.out.at_ hs
        subst had
        have hs0 := HG.out.rng s (List.mem_of_getElem? hs)
        have hs1 := HSM.out s (List.mem_of_getElem? hs)
        obtain ⟨t, ht⟩ : ∃ t : Nat, s = (t : Int) := ⟨s.toNat, by omega⟩
        subst ht
        have hst := orN_step l hi
        rw [Int.toNat_natCast, List.getD_eq_getElem?_getD, hs, Option.getD_some, Int.toNat_natCast] at hst
        have ho1 := orN_small HSM.out (p.take q)
        obtain ⟨o1, e1⟩ : ∃ o, orN l (p.take q) = o := ⟨_, rfl⟩
        rw [e1] at hst ho1 ⊢
        have hor : bits .or .u32 (o1 : Int) (t : Int) = ((o1 ||| t : Nat) : Int) := u32_or_nat o1 t (by omega) (by omega)
        have HST := Lib.hid hst
        have HKN' : Hid (q + 1 ≤ k) := Lib.hid hlt
        have i1 : (0 : Int) ≤ (q : Int) := by omega
        have i2 : (q : Int) < (k : Int) := by omega
        have j1 : (0 : Int) ≤ (r : Int) := by omega
        have j2 : (r : Int) < (n : Int) := by omega
        have l1 : decide ((q : Int) < (k : Int)) = true := decide_eq_true i2
        have l1n : decide (q < k) = true := decide_eq_true hlt
        clear hlt hi hi0 hlow hs hs0 hs1 hst ho1 e1
        go_wp2_with fail
        go_round
        case rel => exact ⟨q + 1, HKN'.out, by rw [HST.out], by go_num⟩
        case measure => have := HKN'.out; simp [intOf] <;> omega
      · obtain rfl : k = q := by omega
        have l1 : decide ((k : Int) < (k : Int)) = false := decide_eq_false (by omega)
        have l1n : decide (k < k) = false := decide_eq_false (by omega)
        have e : p.take k = p := by rw [← HIL.out, List.take_length]
        rw [e]
        have hsm := orN_small HSM.out p
        have HCt := Lib.hid (fun (u : World) => rlist_any ((orN l p : Nat) : Int) u (by omega))
        have hsb : stuckB l p = decide ((mem ((orN l p : Nat) : Int)).length < k) := by unfold stuckB cntN; rw [HIL.out]
        obtain ⟨ms, hms⟩ : ∃ x, mem ((orN l p : Nat) : Int) = x := ⟨_, rfl⟩
        rw [hms] at HCt hsb
        obtain ⟨cn, hcn⟩ : ∃ x, ms.length = x := ⟨_, rfl⟩
        have HCL := Lib.hid hcn
        rw [hcn] at hsb
        have HSB := Lib.hid hsb
        clear e hsm hms hsb hlt hq hcn
        go_wp2_with fail
        refine (HCt.out _).mono ?_
        rintro e ww ⟨Al, cl, rfl, hol, h9⟩
        rw [HCL.out]
        have HB9 := Lib.hid h9
        clear hol h9
        by_cases hst : cn < k
        · have p1 : decide ((cn : Int) < (k : Int)) = true := decide_eq_true (by omega)
          have p1n : decide (cn < k) = true := decide_eq_true hst
          have hb1 := HSB.out
          rw [p1n] at hb1
          obtain ⟨adp, hadp, _⟩ := HI.out.row.2 (by omega)
          subst hadp
          have HVV : Hid ((desc n 0 p).find? (stuckB l) = some p) := Lib.hid (by rw [HV.out, if_pos hb1])
          clear hst hb1
          go_wp2_with fail
          go_ret
          exact ⟨HB9.out, by rw [HVV.out]; exact ⟨adp, k, cp, rfl, HI.out.below HB9.out⟩⟩
        · have p1 : decide ((cn : Int) < (k : Int)) = false := decide_eq_false (by omega)
          have p1n : decide (cn < k) = false := decide_eq_false hst
          have hb1 := HSB.out
          rw [p1n] at hb1
          have HVV : Hid ((desc n 0 p).find? (stuckB l) = none) := Lib.hid (by rw [HV.out, if_neg (by rw [hb1]; simp)])
          clear hst hb1
          go_wp2_with fail
          go_ret
          exact ⟨HB9.out, by rw [HVV.out]; rfl⟩
  | succ d ih =>
    intro w p Ap k cp hG hI hri hkd
    obtain ⟨i0, hi0, hz0, hz1, hz2⟩ := info_parts9 int_info
    have HG := Lib.hid hG
    have HL := Lib.hid hl
    have HI := Lib.hid hI
    have HIL := Lib.hid hI.len
    have HRI := Lib.hid hri
    have hk8 : k ≤ 8 := by have := hri.len; have := hI.len; have := hri.low; omega
    have HK8 := Lib.hid hk8
    have HN8 := Lib.hid hn8
    obtain ⟨many, hmany⟩ : ∃ m, k + (d + 1) = m := ⟨_, rfl⟩
    have HMY : Hid (k + 1 + d = many) := Lib.hid (by omega)
    have HIH := Lib.hid (fun (u : World) (q : List Int) (Aq : Option Addr) (cq : Nat) (hu : Below w.heap.size w u) (h : IR u Aq (k + 1) q) (hr : Rising n q) => ih u q Aq (k + 1) cq (hG.below hu) h hr (by omega))
    have HDF := Lib.hid (desc_find n (stuckB l) d p)
    have e0 : ((k : Int) == (many : Int)) = false := by simp; omega
    rw [hmany]
    obtain ⟨q0, hq0⟩ : ∃ q, nxt p = q := ⟨_, rfl⟩
    have HQ0 := Lib.hid hq0
    have HLOW : Hid (q0 ≤ n) := Lib.hid (by rw [← hq0]; exact hri.low)
    by_cases hk0 : k = 0
    · have HQZ : Hid (q0 = 0) := Lib.hid (by
        have h : p = [] := List.eq_nil_of_length_eq_zero (by rw [HIL.out]; exact hk0)
        rw [← hq0, h]
        rfl)
      have l3 : decide ((0 : Int) < (k : Int)) = false := decide_eq_false (by omega)
      have l3n : decide (0 < k) = false := decide_eq_false (by omega)
      clear hG hI hri hkd hk8 hn8 hl hmany hq0 hk0 ih h256
      go_enter Tryd.func22, Tryd.ntmps22
      go_wp2_with fail
      clear l3 l3n e0
      go_loopw [12] (fun iv wr => ∃ j : Nat, q0 ≤ j ∧ j ≤ n ∧ iv = .int .i64 (j : Int) ∧ Hid (∀ q ∈ kidsTo p j, (desc n d q).find? (stuckB l) = none) ∧ Hid (Below w.heap.size w wr)) (fun iv _ => n - (intOf iv).toNat)
      case atStart => exact ⟨q0, Nat.le_refl _, HLOW.out, (by rw [HQZ.out]; rfl), Lib.hid (by rw [kidsTo_zero p (Nat.le_of_eq HQ0.out.symm)]; simp), Lib.hid (Below.refl _ _)⟩
      case round =>
        obtain ⟨j, hq0, hj, rfl, HNO, HB3⟩ := hrel
        by_cases hjn : j < n
        · have HC := Lib.hid ((HI.out.below HB3.out).row.alloc (Nat.le_refl _) (.cells #[] 3))
          have HBA := Lib.hid ((Below.refl wr.heap.size wr).alloc (Nat.le_refl _) (.cells #[] 3))
          have HJN : Hid (q0 ≤ j ∧ j < n) := Lib.hid ⟨hq0, hjn⟩
          have HRK : Hid (Rising n (p ++ [(j : Int)])) := Lib.hid (rising_kid HRI.out (by rw [HQ0.out]; exact hq0) hjn)
          have j100 : j < 100 := by have := HN8.out; omega
          have l1 : decide ((j : Int) < (n : Int)) = true := decide_eq_true (by omega)
          have l1n : decide (j < n) = true := decide_eq_true hjn
          clear hjn hq0 hj
          go_wp2_with (first
            | (at_builtin
               refine wpList_append_any _ rfl (.tmp 55) (.tmp 56) 27 rfl wr.heap.size 3 i0 (.int .i64 0) 1 8 Tryd.underlying27 hi0 hz0 hz1 hz2 rfl (by decide) (.slice (some ⟨wr.heap.size, 0, none⟩) 0 0) 0 [] rfl (by simpa using World.ownsRow_made wr #[] 0 (Nat.le_refl _) (by simp [maxLen]) (by simp)) _ Ap k cp (vs p) rfl HC.out (vs_ones _) (by have := HK8.out; simp only [maxLen]; omega) (by have := HK8.out; omega) (by simp) ?_
               intro v4 w4 own4 grow4 _
               rw [List.nil_append, Nat.zero_add] at own4
               obtain ⟨A4, c4, rfl, _, _⟩ := own_reads own4
               have HO4 := Lib.hid own4
               have HB4 := Lib.hid (HBA.out.grown grow4 HBA.out.size (fun k hk => by simp [Value.ownBlock] at hk; omega))
               clear own4 grow4)
            | (at_builtin
               refine wpList_append_any _ rfl (.tmp 57) (.tmp 59) 27 rfl wr.heap.size 3 i0 (.int .i64 0) 1 8 Tryd.underlying27 hi0 hz0 hz1 hz2 rfl (by decide) (.slice A4 k c4) k (vs p) rfl (HO4.out.alloc _) _ (some ⟨w4.heap.size, 0, none⟩) 1 1 (vs [(j : Int)]) rfl (reads_int1 _ _ (j : Int) rfl) (vs_ones _) (by have := HK8.out; simp only [maxLen]; omega) (by have := HK8.out; omega) (by have := HB4.out.size; simp; omega) ?_
               intro v5 w5 own5 grow5 _
               rw [show vs p ++ vs [(j : Int)] = vs (p ++ [(j : Int)]) by unfold vs; rw [List.map_append]] at own5
               obtain ⟨A5, c5, rfl, _, _⟩ := own_reads own5
               have HI5 : Hid (IR w5 A5 (k + 1) (p ++ [(j : Int)])) := Lib.hid ⟨Reads.of_own own5, by have := HK8.out; omega⟩
               have HB5 := Lib.hid (HB3.out.trans ((((HB4.out.alloc HB4.out.size _).grown grow5 (HB4.out.alloc HB4.out.size _).size (fun j hj => (HO4.out.lt j hj).1))).mono HB3.out.size))
               have HCall := Lib.hid (HIH.out w5 (p ++ [(j : Int)]) A5 c5 HB5.out HI5.out HRK.out)
               rw [HMY.out] at HCall
               clear own5 grow5))
          refine HCall.out.mono ?_
          rintro e w6 ⟨h6, hres⟩
          have HB6 := Lib.hid (HB5.out.trans (h6.mono HB5.out.size))
          clear h6
          cases hr : (desc n d (p ++ [(j : Int)])).find? (stuckB l) with
          | none =>
            rw [hr] at hres
            obtain rfl := hres
            have HN : Hid (∀ q ∈ kidsTo p (j + 1), (desc n d q).find? (stuckB l) = none) := Lib.hid (fun y hy => by
              rw [kidsTo_step p (by rw [HQ0.out]; exact HJN.out.1)] at hy
              rcases List.mem_append.1 hy with hy | hy
              · exact HNO.out y hy
              · rw [show y = p ++ [(j : Int)] by simpa using hy, hr])
            have hnil := nil_none'
            clear hr l1 l1n
            go_wp2_with fail
            clear hnil
            go_roundw
            case rel => exact ⟨j + 1, by have := HJN.out; omega, HJN.out.2, by go_num, HN, HB6⟩
            case measure => have := HJN.out; simp [intOf] <;> omega
          | some M =>
            rw [hr] at hres
            obtain ⟨A6, n6, c6, rfl, hI6⟩ := hres
            have HE : Hid (SSaid ((desc n (d + 1) p).find? (stuckB l)) w (.returned (.slice (some A6) n6 c6)) w6) := Lib.hid (by
              obtain ⟨t, ht⟩ := kids_split n p (by rw [HQ0.out]; exact HJN.out.1) HJN.out.2
              rw [HDF.out, ht, List.findSome?_append, List.findSome?_eq_none_iff.2 HNO.out, List.findSome?_cons, hr]
              exact ⟨HB6.out, A6, n6, c6, rfl, hI6⟩)
            have hnil := nil_some'
            clear hr hI6 l1 l1n
            go_wp2_with fail
            go_ret
            exact HE.out
        · obtain rfl : n = j := by omega
          have l1 : decide ((n : Int) < (n : Int)) = false := decide_eq_false (by omega)
          have l1n : decide (n < n) = false := decide_eq_false (by omega)
          have HE : Hid ((desc n (d + 1) p).find? (stuckB l) = none) := Lib.hid (by rw [HDF.out]; exact List.findSome?_eq_none_iff.2 HNO.out)
          clear hjn
          go_wp2_with fail
          go_ret
          exact ⟨HB3.out, by rw [HE.out]; rfl⟩
    · obtain ⟨k1, hk1⟩ : ∃ q, k = q + 1 := ⟨k - 1, by omega⟩
      obtain ⟨x, hx⟩ := elem_at (l := p) (k := k1) (by rw [HIL.out]; omega)
      obtain ⟨adp, hadp, _, c1⟩ := hI.at_ hx
      subst hadp
      have hx0 := hri.place x (List.mem_of_getElem? hx)
      have hnx := nxt_last (by rw [HIL.out]; exact hk1) hx hx0.1
      rw [hq0] at hnx
      have hlo := HLOW.out
      have l3 : decide ((0 : Int) < (k : Int)) = true := decide_eq_true (by omega)
      have l3n : decide (0 < k) = true := decide_eq_true (by omega)
      have s3 : wrap64 ((k : Int) - 1) = (k1 : Int) := by unfold wrap64; omega
      have s4 : wrap64 (x + 1) = (q0 : Int) := by unfold wrap64; omega
      have HS4 := Lib.hid s4
      have i3 : (0 : Int) ≤ (k1 : Int) := by omega
      have i4 : (k1 : Int) < (k : Int) := by omega
      clear hG hI hri hkd hk8 hn8 hl hmany hq0 hk0 ih h256 hk1 hx hx0 hnx hlo
      go_enter Tryd.func22, Tryd.ntmps22
      go_wp2_with fail
      clear l3 l3n s3 s4 i3 i4 c1 e0
      go_loopw [12] (fun iv wr => ∃ j : Nat, q0 ≤ j ∧ j ≤ n ∧ iv = .int .i64 (j : Int) ∧ Hid (∀ q ∈ kidsTo p j, (desc n d q).find? (stuckB l) = none) ∧ Hid (Below w.heap.size w wr)) (fun iv _ => n - (intOf iv).toNat)
      case atStart => exact ⟨q0, Nat.le_refl _, HLOW.out, (by first | rfl | rw [HS4.out]), Lib.hid (by rw [kidsTo_zero p (Nat.le_of_eq HQ0.out.symm)]; simp), Lib.hid (Below.refl _ _)⟩
      case round =>
        obtain ⟨j, hq0, hj, rfl, HNO, HB3⟩ := hrel
        by_cases hjn : j < n
        · have HC := Lib.hid ((HI.out.below HB3.out).row.alloc (Nat.le_refl _) (.cells #[] 3))
          have HBA := Lib.hid ((Below.refl wr.heap.size wr).alloc (Nat.le_refl _) (.cells #[] 3))
          have HJN : Hid (q0 ≤ j ∧ j < n) := Lib.hid ⟨hq0, hjn⟩
          have HRK : Hid (Rising n (p ++ [(j : Int)])) := Lib.hid (rising_kid HRI.out (by rw [HQ0.out]; exact hq0) hjn)
          have j100 : j < 100 := by have := HN8.out; omega
          have l1 : decide ((j : Int) < (n : Int)) = true := decide_eq_true (by omega)
          have l1n : decide (j < n) = true := decide_eq_true hjn
          clear hjn hq0 hj
          go_wp2_with (first
            | (at_builtin
               refine wpList_append_any _ rfl (.tmp 55) (.tmp 56) 27 rfl wr.heap.size 3 i0 (.int .i64 0) 1 8 Tryd.underlying27 hi0 hz0 hz1 hz2 rfl (by decide) (.slice (some ⟨wr.heap.size, 0, none⟩) 0 0) 0 [] rfl (by simpa using World.ownsRow_made wr #[] 0 (Nat.le_refl _) (by simp [maxLen]) (by simp)) _ (some adp) k cp (vs p) rfl HC.out (vs_ones _) (by have := HK8.out; simp only [maxLen]; omega) (by have := HK8.out; omega) (by simp) ?_
               intro v4 w4 own4 grow4 _
               rw [List.nil_append, Nat.zero_add] at own4
               obtain ⟨A4, c4, rfl, _, _⟩ := own_reads own4
               have HO4 := Lib.hid own4
               have HB4 := Lib.hid (HBA.out.grown grow4 HBA.out.size (fun k hk => by simp [Value.ownBlock] at hk; omega))
               clear own4 grow4)
            | (at_builtin
               refine wpList_append_any _ rfl (.tmp 57) (.tmp 59) 27 rfl wr.heap.size 3 i0 (.int .i64 0) 1 8 Tryd.underlying27 hi0 hz0 hz1 hz2 rfl (by decide) (.slice A4 k c4) k (vs p) rfl (HO4.out.alloc _) _ (some ⟨w4.heap.size, 0, none⟩) 1 1 (vs [(j : Int)]) rfl (reads_int1 _ _ (j : Int) rfl) (vs_ones _) (by have := HK8.out; simp only [maxLen]; omega) (by have := HK8.out; omega) (by have := HB4.out.size; simp; omega) ?_
               intro v5 w5 own5 grow5 _
               rw [show vs p ++ vs [(j : Int)] = vs (p ++ [(j : Int)]) by unfold vs; rw [List.map_append]] at own5
               obtain ⟨A5, c5, rfl, _, _⟩ := own_reads own5
               have HI5 : Hid (IR w5 A5 (k + 1) (p ++ [(j : Int)])) := Lib.hid ⟨Reads.of_own own5, by have := HK8.out; omega⟩
               have HB5 := Lib.hid (HB3.out.trans ((((HB4.out.alloc HB4.out.size _).grown grow5 (HB4.out.alloc HB4.out.size _).size (fun j hj => (HO4.out.lt j hj).1))).mono HB3.out.size))
               have HCall := Lib.hid (HIH.out w5 (p ++ [(j : Int)]) A5 c5 HB5.out HI5.out HRK.out)
               rw [HMY.out] at HCall
               clear own5 grow5))
          refine HCall.out.mono ?_
          rintro e w6 ⟨h6, hres⟩
          have HB6 := Lib.hid (HB5.out.trans (h6.mono HB5.out.size))
          clear h6
          cases hr : (desc n d (p ++ [(j : Int)])).find? (stuckB l) with
          | none =>
            rw [hr] at hres
            obtain rfl := hres
            have HN : Hid (∀ q ∈ kidsTo p (j + 1), (desc n d q).find? (stuckB l) = none) := Lib.hid (fun y hy => by
              rw [kidsTo_step p (by rw [HQ0.out]; exact HJN.out.1)] at hy
              rcases List.mem_append.1 hy with hy | hy
              · exact HNO.out y hy
              · rw [show y = p ++ [(j : Int)] by simpa using hy, hr])
            have hnil := nil_none'
            clear hr l1 l1n
            go_wp2_with fail
            clear hnil
            go_roundw
            case rel => exact ⟨j + 1, by have := HJN.out; omega, HJN.out.2, by go_num, HN, HB6⟩
            case measure => have := HJN.out; simp [intOf] <;> omega
          | some M =>
            rw [hr] at hres
            obtain ⟨A6, n6, c6, rfl, hI6⟩ := hres
            have HE : Hid (SSaid ((desc n (d + 1) p).find? (stuckB l)) w (.returned (.slice (some A6) n6 c6)) w6) := Lib.hid (by
              obtain ⟨t, ht⟩ := kids_split n p (by rw [HQ0.out]; exact HJN.out.1) HJN.out.2
              rw [HDF.out, ht, List.findSome?_append, List.findSome?_eq_none_iff.2 HNO.out, List.findSome?_cons, hr]
              exact ⟨HB6.out, A6, n6, c6, rfl, hI6⟩)
            have hnil := nil_some'
            clear hr hI6 l1 l1n
            go_wp2_with fail
            go_ret
            exact HE.out
        · obtain rfl : n = j := by omega
          have l1 : decide ((n : Int) < (n : Int)) = false := decide_eq_false (by omega)
          have l1n : decide (n < n) = false := decide_eq_false (by omega)
          have HE : Hid ((desc n (d + 1) p).find? (stuckB l) = none) := Lib.hid (by rw [HDF.out]; exact List.findSome?_eq_none_iff.2 HNO.out)
          clear hjn
          go_wp2_with fail
          go_ret
          exact ⟨HB3.out, by rw [HE.out]; rfl⟩

end Go.Proofs.YtkbgpmgnkegipaaDoor
