/-
  GangHall's walk. No statement is proved here.
-/
import Derived.Test.YtkbgpmgnkegipaaDoorDj
import Derived.Test.YtkbgpmgnkegipaaDoorDk
import Derived.Test.YtkbgpmgnkegipaaDoorDl
namespace Go.Proofs.YtkbgpmgnkegipaaDoor
open Go.RowKit Go.Maps

/-- the first k sets cut to the pCPUs that there are -/
def cutS (l : List Int) (k : Nat) : List Int := (l.take k).map (· % 256) ++ l.drop k
theorem cutS_at {l : List Int} {k : Nat} {s : Int} (h : l[k]? = some s) : (cutS l k)[k]? = some s ∧ cutS l (k + 1) = (cutS l k).set k (s % 256) := by
  have hk := (List.getElem?_eq_some_iff.1 h).1
  have hl : ((l.take k).map (· % 256)).length = k := by rw [List.length_map, List.length_take]; omega
  have hd : l.drop k = s :: l.drop (k + 1) := by
    rw [List.drop_eq_getElem_cons hk]
    congr 1
    exact (List.getElem?_eq_some_iff.1 h).2
  unfold cutS
  refine ⟨by rw [List.getElem?_append_right (by omega), hl, Nat.sub_self, hd]; rfl, ?_⟩
  rw [List.take_add_one, h, List.map_append, List.set_append_right _ _ (by omega), hl, Nat.sub_self, hd, List.append_assoc]
  rfl
theorem cutS_end (l : List Int) : cutS l l.length = l.map (· % 256) := by unfold cutS; rw [List.take_length, List.drop_length, List.append_nil]
theorem cutS_sets {l : List Int} (h8 : l.length ≤ 8) : setsB (l.map (· % 256)) = true ∧ ∀ x ∈ l.map (· % 256), 0 ≤ x ∧ x < 256 := by
  have h : ∀ x ∈ l.map (· % 256), 0 ≤ x ∧ x < 256 := fun x hx => by
    obtain ⟨y, _, rfl⟩ := List.mem_map.1 hx
    show 0 ≤ y % 256 ∧ y % 256 < 256
    omega
  refine ⟨?_, h⟩
  unfold setsB
  rw [List.length_map, decide_eq_true h8, Bool.true_and, List.all_eq_true]
  exact fun x hx => decide_eq_true (h x hx).2
theorem ownu_put {w : World} {B n c k : Nat} {ad : Addr} {xs : List Int} (h : w.ownsRow B 31 1 (.slice (some ad) n c) n (us xs)) (v : Int) : ∃ o, ad.add k = ⟨ad.block, o, none⟩ ∧ w.frozen? ⟨ad.block, o, none⟩ = false ∧ B ≤ ad.block ∧
    (w.setCell ⟨ad.block, o, none⟩ (.int .u32 v)).ownsRow B 31 1 (.slice (some ad) n c) n (us (xs.set k v)) ∧ w.grownBy (w.setCell ⟨ad.block, o, none⟩ (.int .u32 v)) (some ad.block) := by
  rcases h.2 with ⟨h1, _⟩ | ⟨g, cap, cur, h1, hb, _⟩
  · cases h1
  · injection h1 with h1
    injection h1 with h1
    subst h1
    refine ⟨k, by simp [Addr.add] <;> omega, h.frozenAt _, hb, ?_⟩
    have h2 := h.stored k (.int .u32 v)
    have e : us (xs.set k v) = (us xs).set k (.int .u32 v) := by unfold us; rw [List.map_set]
    rw [e]
    exact h2

set_option maxRecDepth 100000 in
set_option maxHeartbeats 16000000 in
theorem hall_walk (A : Option Addr) (n c : Nat) (l : List Int) (w : World) (hA : SA w (A, n, c, l)) (hD : Db w) : Calls Tryd.prog 4 #[.slice A n c] w (Said (.bool true) w) := by
  obtain ⟨ji, hi1, hy0, hy1, hy2⟩ := info_parts9 cpus_info
  have HA := Lib.hid hA
  have HW := Lib.hid (wakes_any w)
  have HDB := Lib.hid hD
  have HDL := Lib.hid hD.lt
  have hnc : n ≤ c := hA.cap
  clear hA hD
  go_enter Tryd.func4, Tryd.ntmps4
  go_wp2_with fail
  refine HW.out.mono ?_
  rintro e w0 ⟨rfl, h0⟩
  have HB0 := Lib.hid h0
  have hs := HA.out.below h0
  have hcut := cut_us hs.row 8
  have hlm : l.length = n := by have h := hs.row.1; rw [length_us] at h; dsimp only at h; omega
  have HRG : Hid (∀ s ∈ l.take 8, 0 ≤ s ∧ s < 4294967296) := Lib.hid (fun s h => hs.rng s (List.mem_of_mem_take h))
  have HC := Lib.hid (hcut.alloc (Nat.le_refl _) (.cells #[] 31))
  have HBA2 := Lib.hid ((Below.refl w0.heap.size w0).alloc (Nat.le_refl _) (.cells #[] 31))
  obtain ⟨q, hq⟩ : ∃ q, min n 8 = q := ⟨_, rfl⟩
  have HSL : Hid ((l.take 8).length = q) := Lib.hid (by rw [List.length_take]; omega)
  obtain ⟨sl, hsl⟩ : ∃ t, l.take 8 = t := ⟨_, rfl⟩
  have HQ8 : Hid (q ≤ 8) := Lib.hid (by omega)
  rw [hsl, hq] at HC
  rw [hsl] at HRG HSL
  have hmi : min (n : Int) 8 = (q : Int) := by omega
  have m0 : (0 : Int) ≤ (q : Int) := by omega
  have m1 : (q : Int) ≤ (c : Int) := by omega
  clear h0 hs hcut hlm hsl hq
  go_upto_region 4 with (
    at_builtin
    refine wpList_append_any _ rfl (.tmp 11) (.tmp 16) 24 rfl w0.heap.size 31 ji (.int .u32 0) 1 4 Tryd.underlying24 hi1 hy0 hy1 hy2 rfl (by decide) (.slice (some ⟨w0.heap.size, 0, none⟩) 0 0) 0 [] rfl (by simpa using World.ownsRow_made w0 #[] 0 (Nat.le_refl _) (by simp [maxLen]) (by simp)) _ A q c (us sl) rfl HC.out (us_ones _) (by have := HQ8.out; simp only [maxLen]; omega) (by have := HQ8.out; omega) (by simp) ?_
    intro v9 w9 own9 grow9 ne9
    rw [List.nil_append, Nat.zero_add] at own9
    obtain ⟨A9, c9, rfl, _, _⟩ := own_reads own9
    have HBX : Hid (Below w0.heap.size w0 w9) := Lib.hid (HBA2.out.grown grow9 HBA2.out.size (fun g hg => by simp [Value.ownBlock] at hg; omega))
    have HO9 : Hid (w9.ownsRow w0.heap.size 31 1 (.slice A9 q c9) q (us (cutS sl 0))) := Lib.hid own9
    clear own9 grow9 ne9)
  clear hmi m0 m1 HC HBA2
  go_wp2_with fail
  go_loopw [20] (fun iv wr => ∃ k : Nat, k ≤ q ∧ iv = .int .i64 (k : Int) ∧ Hid (wr.ownsRow w0.heap.size 31 1 (.slice A9 q c9) q (us (cutS sl k))) ∧ Hid (Below w0.heap.size w0 wr)) (fun iv _ => q - (intOf iv).toNat)
  case atStart => exact ⟨0, Nat.zero_le _, rfl, HO9, HBX⟩
  case round =>
    clear HO9 HBX
    obtain ⟨k, hk, rfl, HO, HB⟩ := hrel
    by_cases hlt : k < q
    · obtain ⟨s, hx⟩ := elem_at (l := sl) (k := k) (by rw [HSL.out]; exact hlt)
      obtain ⟨h1, h2⟩ := cutS_at hx
      have hr := HRG.out s (List.mem_of_getElem? hx)
      obtain ⟨ad, rfl, _, hc⟩ := (Reads.of_own HO.out).2 (by omega)
      have c0 := hc k (.int .u32 s) (by unfold us; rw [List.getElem?_map, h1]; rfl)
      obtain ⟨o, hao, r0, hbo, ho2, hg2⟩ := ownu_put (k := k) HO.out (s % 256)
      rw [hao] at c0
      rw [← h2] at ho2
      have hand := and_all_m hr.1 hr.2
      have HO2 := Lib.hid ho2
      have HB2 := Lib.hid (HB.out.grown hg2 HB.out.size (fun g hg => by cases hg; exact hbo))
      have HJ : Hid (k + 1 ≤ q) := Lib.hid hlt
      have k100 : k < 100 := by have := HQ8.out; omega
      have i1 : (0 : Int) ≤ (k : Int) := by omega
      have i2 : (k : Int) < (q : Int) := by omega
      have l1 : decide ((k : Int) < (q : Int)) = true := decide_eq_true i2
      have l1n : decide (k < q) = true := decide_eq_true hlt
      clear hx h1 h2 hr hc hbo ho2 hg2 hlt
      go_wp2_with fail
      go_roundw
      case rel => exact ⟨k + 1, HJ.out, by go_num, HO2, HB2⟩
      case measure => have := HJ.out; simp [intOf] <;> omega
    · obtain rfl : q = k := by omega
      have l1 : decide ((q : Int) < (q : Int)) = false := decide_eq_false (by omega)
      have l1n : decide (q < q) = false := decide_eq_false (by omega)
      have ho := HO.out
      rw [← HSL.out, cutS_end, HSL.out] at ho
      obtain ⟨hset, hrng⟩ := cutS_sets (l := sl) (by rw [HSL.out]; exact HQ8.out)
      obtain ⟨S, hS⟩ : ∃ S, sl.map (· % 256) = S := ⟨_, rfl⟩
      rw [hS] at ho hset hrng
      have hSl : S.length = q := by rw [← hS, List.length_map]; exact HSL.out
      have HSW : Hid (SW wr A9 q S) := Lib.hid ⟨Reads.of_own ho, by have := HQ8.out; omega, fun x hx => ⟨(hrng x hx).1, by have := (hrng x hx).2; omega⟩⟩
      have HBw := Lib.hid (HB0.out.trans (HB.out.mono HB0.out.size))
      have HSt := Lib.hid (fun (u : World) (h : Below wr.heap.size wr u) => stuck_any A9 q c9 S u (HSW.out.below h))
      have HMa := Lib.hid (fun (u : World) (h : Below wr.heap.size wr u) => may_any A9 q c9 S u (HSW.out.below h) (HDB.out.below (HBw.out.trans (h.mono HBw.out.size)) HDL.out))
      have HMS := Lib.hid (may_stuck (fun x hx => (hrng x hx).1) hset)
      have HSF := Lib.hid (stuck_facts hset)
      rw [hSl] at HSF
      have HR256 := Lib.hid hrng
      have HSlen := Lib.hid hSl
      obtain ⟨st, hst⟩ : ∃ b, stuckL S = b := ⟨_, rfl⟩
      obtain ⟨mb, hmb⟩ : ∃ b, mayB S = b := ⟨_, rfl⟩
      rw [hst] at HSt HMS HSF
      rw [hmb] at HMa HMS
      clear ho hset hrng hS hSl hst hmb hlt hk
      go_wp2_with fail
      refine (HSt.out _ (Below.refl _ _)).mono ?_
      rintro e u3 ⟨A3, n3, c3, rfl, ho3, h1⟩
      have HX := Lib.hid h1
      have hn3 : st.length = n3 := by have h := ho3.1; rw [length_vs] at h; omega
      have hn8 : n3 ≤ 8 := by have := HSF.out.1.len; have := HSF.out.1.low; have := HQ8.out; omega
      have HI3 : Hid (IR u3 A3 n3 st) := Lib.hid ⟨Reads.of_own ho3, by omega⟩
      have HN3 := Lib.hid hn3
      have HN8 := Lib.hid hn8
      clear h1 ho3 hn3 hn8 l1 l1n
      go_wp2_with fail
      refine (HMa.out _ HX.out).mono ?_
      rintro e u4 ⟨rfl, h1⟩
      have HX4 := Lib.hid (HX.out.trans (h1.mono HX.out.size))
      have HI4 := Lib.hid (HI3.out.below h1)
      have HSW4 := Lib.hid (HSW.out.below HX4.out)
      have HB4 := Lib.hid (HBw.out.trans (HX4.out.mono HBw.out.size))
      clear h1
      have hmb : mb = decide (n3 = 0) := by rw [HMS.out, HN3.out]
      by_cases h0 : n3 = 0
      · have g0 : ((n3 : Int) == 0) = true := by simp [h0]
        have g0n : (n3 == 0) = true := by simp [h0]
        rw [decide_eq_true h0] at hmb
        subst hmb
        have HZ := Lib.hid h0
        have l3 : decide ((0 : Int) < (n3 : Int)) = false := decide_eq_false (by omega)
        have l3n : decide (0 < n3) = false := decide_eq_false (by omega)
        clear h0
        go_wp2_with fail
        go_loop [6, 40] (fun tv iv => ∃ t : Int, tv = .int .u32 t ∧ iv = .int .i64 0) (fun _ iv => 0)
        case atStart => exact ⟨0, rfl, rfl⟩
        case round =>
          obtain ⟨t, rfl, rfl⟩ := hrel
          go_wp2_with fail
          go_ret
          exact ⟨rfl, HB4.out⟩
      · have g0 : ((n3 : Int) == 0) = false := by simp; omega
        have g0n : (n3 == 0) = false := by simp; omega
        rw [decide_eq_false h0] at hmb
        subst hmb
        have HZ := Lib.hid h0
        clear h0
        go_wp2_with fail
        go_loop [6, 40] (fun tv iv => ∃ k : Nat, k ≤ n3 ∧ tv = .int .u32 ((orN S (st.take k) : Nat) : Int) ∧ iv = .int .i64 (k : Int)) (fun _ iv => n3 - (intOf iv).toNat)
        case atStart => exact ⟨0, by omega, rfl, rfl⟩
        case round =>
          obtain ⟨k, hk, rfl, rfl⟩ := hrel
          by_cases hlt : k < n3
          · obtain ⟨i, hi⟩ := elem_at (l := st) (k := k) (by rw [HN3.out]; exact hlt)
            obtain ⟨adp, hadp, _, c1⟩ := HI4.out.at_ hi
            subst hadp
            have hi0 := HSF.out.1.place i (List.mem_of_getElem? hi)
            have hlow := HSF.out.1.low
            obtain ⟨r, hr⟩ : ∃ r : Nat, i = (r : Int) := ⟨i.toNat, by omega⟩
            subst hr
            obtain ⟨s, hs⟩ := elem_at (l := S) (k := r) (by rw [HSlen.out]; omega)
            obtain ⟨ad, had, _, c2⟩ := HSW4.out.at_ hs
            subst had
            have hs0 := HR256.out s (List.mem_of_getElem? hs)
            obtain ⟨t, ht⟩ : ∃ t : Nat, s = (t : Int) := ⟨s.toNat, by omega⟩
            subst ht
            have hst := orN_step S hi
            rw [Int.toNat_natCast, List.getD_eq_getElem?_getD, hs, Option.getD_some, Int.toNat_natCast] at hst
            have ho1 := orN_small (fun x hx => (HR256.out x hx).2) (st.take k)
            obtain ⟨o1, e1⟩ : ∃ o, orN S (st.take k) = o := ⟨_, rfl⟩
            rw [e1] at hst ho1 ⊢
            have hor : bits .or .u32 (o1 : Int) (t : Int) = ((o1 ||| t : Nat) : Int) := u32_or_nat o1 t (by omega) (by omega)
            have HST := Lib.hid hst
            have HKN' : Hid (k + 1 ≤ n3) := Lib.hid hlt
            have i1 : (0 : Int) ≤ (k : Int) := by omega
            have i2 : (k : Int) < (n3 : Int) := by omega
            have j1 : (0 : Int) ≤ (r : Int) := by omega
            have j2 : (r : Int) < (q : Int) := by omega
            have l1 : decide ((k : Int) < (n3 : Int)) = true := decide_eq_true i2
            have l1n : decide (k < n3) = true := decide_eq_true hlt
            have p1 : decide ((r : Int) < 0) = false := decide_eq_false (by omega)
            have p2 : decide ((q : Int) ≤ (r : Int)) = false := decide_eq_false (by omega)
            have p2n : decide (q ≤ r) = false := decide_eq_false (by omega)
            have k100 : k < 100 := by have := HN8.out; omega
            clear hlt hi hi0 hlow hs hs0 hst ho1 e1 hk
            go_wp2_with fail
            go_round
            case rel => exact ⟨k + 1, HKN'.out, by rw [HST.out], by go_num⟩
            case measure => have := HKN'.out; simp [intOf] <;> omega
          · obtain rfl : n3 = k := by omega
            have l1 : decide ((n3 : Int) < (n3 : Int)) = false := decide_eq_false (by omega)
            have l1n : decide (n3 < n3) = false := decide_eq_false (by omega)
            have e : st.take n3 = st := by rw [← HN3.out, List.take_length]
            rw [e]
            have hsm := orN_small (fun x hx => (HR256.out x hx).2) st
            have HCt := Lib.hid (fun (u : World) => count_any_m ((orN S st : Nat) : Int) u (by omega) (by omega))
            have hcn : (mem ((orN S st : Nat) : Int)).length = cntN S st := rfl
            rw [hcn] at HCt
            have hlt2 := HSF.out.2 (by rw [HN3.out]; exact HZ.out)
            rw [HN3.out] at hlt2
            obtain ⟨cn, hcn2⟩ : ∃ x, cntN S st = x := ⟨_, rfl⟩
            rw [hcn2] at HCt hlt2
            have p1 : decide ((cn : Int) < (n3 : Int)) = true := decide_eq_true (by omega)
            have p1n : decide (cn < n3) = true := decide_eq_true hlt2
            have HSo := Lib.hid (fun (u : World) (h : Below u4.heap.size u4 u) => sorted_any A3 n3 c3 st u (HI4.out.below h).row (by have := HN8.out; omega) (fun k x y hx hy => by
              have hp := HSF.out.1.rise
              obtain ⟨x1, x2⟩ := List.getElem?_eq_some_iff.1 hx
              obtain ⟨y1, y2⟩ := List.getElem?_eq_some_iff.1 hy
              have := List.pairwise_iff_getElem.1 hp k (k + 1) x1 y1 (by omega)
              omega))
            clear e hsm hcn hcn2 hlt2 hlt hk
            go_wp2_with fail
            refine (HCt.out _).mono ?_
            rintro e u5 ⟨rfl, md, rfl⟩
            have HDR := Lib.hid (below_drewN (Below.refl u4.heap.size u4) md)
            go_wp2_with fail
            refine (HSo.out _ HDR.out).mono ?_
            rintro e u6 ⟨rfl, md2, rfl⟩
            have HBF := Lib.hid (below_drewN HB4.out (md + md2))
            go_wp2_with fail
            go_ret
            exact ⟨rfl, HBF.out⟩

end Go.Proofs.YtkbgpmgnkegipaaDoor
