/-
  The walk of the law on what leads back. No statement is proved here.
-/
import Derived.Test.YteglkhljenjplaaTf
import Derived.Test.YteglkhljenjplaaWi
import Derived.Test.YteglkhljenjplaaLo
namespace Go.Proofs.Yteglkhljenjplaa
open Go.RowKit

/-- a number's text, and the number of that text -/
theorem text_parse (hi lo : Nat) (hh : hi < 18446744073709551616) (hl : lo < 18446744073709551616) :
    ∃ t : ByteArray, (∀ u, Calls Try.prog 27 #[.agg #[.int .u64 (hi : Int), .int .u64 (lo : Int)]] u (Ans (.string t) u)) ∧
      (∀ u, Calls Try.prog 26 #[.string t] u (Ans (.tuple #[.agg #[.int .u64 (hi : Int), .int .u64 (lo : Int)], .int .i64 0]) u)) := by
  have hN : num hi lo < 10 ^ 39 := by rw [num_def]; omega
  obtain ⟨k, hk⟩ : ∃ k, k = 38 := ⟨_, rfl⟩
  rw [show 39 = k + 1 by omega] at hN
  refine ⟨txt (dg (k + 1) (num hi lo)), fun u => text_any k (by omega) hi lo hN hh hl u, fun u => parse_digits _ (dg_lt _ _) ?_ (dg_form k _ hN) hi lo hl hh ?_ u⟩
  · have := dg_len (k + 1) (num hi lo)
    omega
  · rw [dg_val _ _ hN, num_def]

theorem back_sums {lh ll hl xh r ah al : Nat} (hxh : lh + hl = xh) (hdm : hl * 18446744073709551616 + (lh * 18446744073709551616 + ll) + r = ah * 18446744073709551616 + al) (hah : ah < 18446744073709551616) (hal : al < 18446744073709551616) (hll : ll < 18446744073709551616) :
    lh * 18446744073709551616 + ll + (hl * 18446744073709551616 + 0) = xh * 18446744073709551616 + ll ∧ xh * 18446744073709551616 + ll + (0 * 18446744073709551616 + r) = ah * 18446744073709551616 + al ∧ xh < 18446744073709551616 ∧ hl < 18446744073709551616 := by
  omega

/-- the quotient times the divisor, and the rest: the calls that the law makes -/
theorem back_numbers (ah al d : Nat) (hd0 : 0 < d) (hah : ah < 18446744073709551616) (hal : al < 18446744073709551616) (hd : d < 18446744073709551616) :
    ∃ qh ql r lh ll hl xh xl : Nat, r < d ∧
      Hid (∀ u, Calls Try.prog 21 #[.agg #[.int .u64 (ah : Int), .int .u64 (al : Int)], .int .u64 (d : Int)] u (Ans (.tuple #[.agg #[.int .u64 (qh : Int), .int .u64 (ql : Int)], .int .u64 (r : Int), .int .i64 0]) u)) ∧
      Hid (∀ u, Calls Try.prog 14 #[.int .u64 (ql : Int), .int .u64 (d : Int)] u (Ans (.agg #[.int .u64 (lh : Int), .int .u64 (ll : Int)]) u)) ∧
      Hid (∀ u, Calls Try.prog 14 #[.int .u64 (qh : Int), .int .u64 (d : Int)] u (Ans (.agg #[.int .u64 0, .int .u64 (hl : Int)]) u)) ∧
      Hid (∀ u, Calls Try.prog 17 #[.agg #[.int .u64 (lh : Int), .int .u64 (ll : Int)], .agg #[.int .u64 (hl : Int), .int .u64 0]] u (Ans (.tuple #[.agg #[.int .u64 (xh : Int), .int .u64 (xl : Int)], .int .i64 0]) u)) ∧
      Hid (∀ u, Calls Try.prog 17 #[.agg #[.int .u64 (xh : Int), .int .u64 (xl : Int)], .agg #[.int .u64 0, .int .u64 (r : Int)]] u (Ans (.tuple #[.agg #[.int .u64 (ah : Int), .int .u64 (al : Int)], .int .i64 0]) u)) := by
  obtain ⟨Q, hQ⟩ : ∃ Q, (ah * 18446744073709551616 + al) / d = Q := ⟨_, rfl⟩
  obtain ⟨r, hr⟩ : ∃ r, (ah * 18446744073709551616 + al) % d = r := ⟨_, rfl⟩
  have hrd : r < d := by rw [← hr]; exact Nat.mod_lt _ hd0
  have hdm := Nat.div_add_mod (ah * 18446744073709551616 + al) d
  rw [hQ, hr] at hdm
  have hQb : Q < 340282366920938463463374607431768211456 := by
    rw [← hQ]
    exact Nat.lt_of_le_of_lt (Nat.div_le_self _ _) (by omega)
  obtain ⟨qh, hqh⟩ : ∃ q, Q / 18446744073709551616 = q := ⟨_, rfl⟩
  obtain ⟨ql, hql⟩ : ∃ q, Q % 18446744073709551616 = q := ⟨_, rfl⟩
  have hqq : Q = qh * 18446744073709551616 + ql := by omega
  have hqb : ql < 18446744073709551616 := by omega
  have hqhb : qh < 18446744073709551616 := by omega
  have e : d * Q = qh * d * 18446744073709551616 + ql * d := by
    rw [hqq, Nat.mul_comm, Nat.add_mul, Nat.mul_right_comm]
  obtain ⟨lh, ll, hlm, hll, hlh⟩ := mul_words hqb hd
  obtain ⟨hl, hhl⟩ : ∃ h, qh * d = h := ⟨_, rfl⟩
  rw [e, hlm, hhl] at hdm
  obtain ⟨xh, hxh⟩ : ∃ x, lh + hl = x := ⟨_, rfl⟩
  obtain ⟨s1, s2, hxb, hhb⟩ := back_sums hxh hdm hah hal hll
  have hrb : r < 18446744073709551616 := Nat.lt_trans hrd hd
  refine ⟨qh, ql, r, lh, ll, hl, xh, ll, hrd, Lib.hid fun u => ?_, Lib.hid fun u => ?_, Lib.hid fun u => ?_, Lib.hid fun u => ?_, Lib.hid fun u => ?_⟩
  · exact div_any ah al d qh ql r hah hal hd0 hd (hQ.trans hqq) hqb hr u
  · exact mul_any ql d lh ll hqb hd hll hlm u
  · exact mul_any qh d 0 hl hqhb hd hhb (by rw [hhl, Nat.zero_mul, Nat.zero_add]) u
  · exact add_fits lh ll hl 0 xh ll hll (by decide) hll hxb s1 u
  · exact add_fits xh ll 0 r ah al hll hrb hal hah s2 u

set_option maxHeartbeats 16000000 in
set_option maxRecDepth 100000 in
theorem back_walk (ah al bh bl d : Nat) (hah : ah < 18446744073709551616) (hal : al < 18446744073709551616) (hbh : bh < 18446744073709551616) (hbl : bl < 18446744073709551616) (hd : d < 18446744073709551616) (w : World) :
    Calls Try.prog 6 #[.agg #[.int .u64 (ah : Int), .int .u64 (al : Int)], .agg #[.int .u64 (bh : Int), .int .u64 (bl : Int)], .int .u64 (d : Int)] w (Ans (.bool true) w) := by
  obtain ⟨sh, sl, c, hS⟩ := Num.some (ah * 18446744073709551616 + al + (bh * 18446744073709551616 + bl))
  have HADD := Lib.hid (fun u => add_num ah al bh bl sh sl c hal hbl hah hbh hS u)
  have HSUM : Hid ((c = 0 ∧ ah * 18446744073709551616 + al + (bh * 18446744073709551616 + bl) = sh * 18446744073709551616 + sl) ∨ c = 131) := by
    rcases hS with ⟨h1, h2, _, _⟩ | ⟨h1, _⟩
    · exact Lib.hid (.inl ⟨h1, h2⟩)
    · exact Lib.hid (.inr h1)
  have hsl := hS.lo
  have hsh := hS.hi
  have HSB1 := Lib.hid (fun (h : ah * 18446744073709551616 + al + (bh * 18446744073709551616 + bl) = sh * 18446744073709551616 + sl) u => sub_fits sh sl bh bl ah al hsl hbl hal hsh h.symm u)
  have HSB2 := Lib.hid (fun (h : ah * 18446744073709551616 + al + (bh * 18446744073709551616 + bl) = sh * 18446744073709551616 + sl) u => sub_fits sh sl ah al bh bl hsl hal hbl hsh (h.symm.trans (Nat.add_comm _ _)) u)
  obtain ⟨tx, h1, h2⟩ := text_parse ah al hah hal
  have HTX := Lib.hid h1
  have HPA := Lib.hid h2
  have HN := Lib.hid (And.intro hah (And.intro hal hd))
  obtain ⟨b1, b2, bb⟩ := blks2 w 24 24 #[.int .u64 (ah : Int), .int .u64 (al : Int)] #[.int .u64 (bh : Int), .int .u64 (bl : Int)]
  have HB := Lib.hid (And.intro b1 (And.intro b2 bb))
  clear b1 b2 bb h1 h2 hS hsl hsh hah hal hbh hbl hd
  go_enter Try.func6, Try.ntmps6
  go_wp2_with fail
  refine (wakes_any _).mono ?_
  rintro e w1 ⟨rfl, h1⟩
  have FA := HB.out.1.below h1 HB.out.1.lt
  have FB := HB.out.2.1.below h1 HB.out.2.1.lt
  have GB := HB.out.2.2.trans (h1.mono HB.out.2.2.size)
  clear HB h1
  obtain ⟨p0, p1⟩ := FA.two
  obtain ⟨p2, p3⟩ := FB.two
  go_wp2_with fail
  refine (HADD.out _).mono ?_
  rintro e w2 ⟨rfl, h2⟩
  clear p0 p1 p2 p3
  replace FA := FA.below h2 FA.lt
  replace FB := FB.below h2 FB.lt
  replace GB := GB.trans (h2.mono GB.size)
  clear h2
  go_upto_region 4 with fail
  have F7 := Blk.new w2 24 #[.int .u64 (sh : Int), .int .u64 (sl : Int)]
  replace FA := FA.alloc (.cells #[.int .u64 (sh : Int), .int .u64 (sl : Int)] 24)
  replace FB := FB.alloc (.cells #[.int .u64 (sh : Int), .int .u64 (sl : Int)] 24)
  replace GB := GB.alloc GB.size (.cells #[.int .u64 (sh : Int), .int .u64 (sl : Int)] 24)
  generalize w2.alloc (.cells #[.int .u64 (sh : Int), .int .u64 (sl : Int)] 24) = V2 at F7 FA FB GB ⊢
  generalize w2.heap.size = g7 at F7 ⊢
  go_upto_if 32 with fail
  go_cut [] (fun wx => Blk wx w.heap.size 24 #[.int .u64 (ah : Int), .int .u64 (al : Int)] ∧ Below w.heap.size w wx)
  case first =>
    rcases HSUM.out with ⟨rfl, hs⟩ | rfl
    · have HS1 := Lib.hid (fun u => HSB1.out hs u)
      have HS2 := Lib.hid (fun u => HSB2.out hs u)
      clear hs
      obtain ⟨q0, q1⟩ := F7.two
      obtain ⟨p2, p3⟩ := FB.two
      go_wp2_with fail
      refine (HS1.out _).mono ?_
      rintro e w3 ⟨rfl, h3⟩
      clear q0 q1 p2 p3
      replace FA := FA.below h3 FA.lt
      replace FB := FB.below h3 FB.lt
      replace F7 := F7.below h3 F7.lt
      replace GB := GB.trans (h3.mono GB.size)
      clear h3
      go_upto_region 6 with fail
      have F9 := Blk.new w3 24 #[.int .u64 (ah : Int), .int .u64 (al : Int)]
      replace FA := FA.alloc (.cells #[.int .u64 (ah : Int), .int .u64 (al : Int)] 24)
      replace FB := FB.alloc (.cells #[.int .u64 (ah : Int), .int .u64 (al : Int)] 24)
      replace F7 := F7.alloc (.cells #[.int .u64 (ah : Int), .int .u64 (al : Int)] 24)
      replace GB := GB.alloc GB.size (.cells #[.int .u64 (ah : Int), .int .u64 (al : Int)] 24)
      generalize w3.alloc (.cells #[.int .u64 (ah : Int), .int .u64 (al : Int)] 24) = V3 at F9 FA FB F7 GB ⊢
      generalize w3.heap.size = g9 at F9 ⊢
      obtain ⟨q0, q1⟩ := F7.two
      obtain ⟨p0, p1⟩ := FA.two
      go_wp2_with fail
      refine (HS2.out _).mono ?_
      rintro e w4 ⟨rfl, h4⟩
      clear q0 q1 p0 p1 F7
      replace FA := FA.below h4 FA.lt
      replace FB := FB.below h4 FB.lt
      replace F9 := F9.below h4 F9.lt
      replace GB := GB.trans (h4.mono GB.size)
      clear h4
      go_upto_region 7 with fail
      have F11 := Blk.new w4 24 #[.int .u64 (bh : Int), .int .u64 (bl : Int)]
      replace FA := FA.alloc (.cells #[.int .u64 (bh : Int), .int .u64 (bl : Int)] 24)
      replace FB := FB.alloc (.cells #[.int .u64 (bh : Int), .int .u64 (bl : Int)] 24)
      replace F9 := F9.alloc (.cells #[.int .u64 (bh : Int), .int .u64 (bl : Int)] 24)
      replace GB := GB.alloc GB.size (.cells #[.int .u64 (bh : Int), .int .u64 (bl : Int)] 24)
      generalize w4.alloc (.cells #[.int .u64 (bh : Int), .int .u64 (bl : Int)] 24) = V4 at F11 FA FB F9 GB ⊢
      generalize w4.heap.size = g11 at F11 ⊢
      obtain ⟨p0, p1⟩ := FA.two
      obtain ⟨p2, p3⟩ := FB.two
      obtain ⟨q0, q1⟩ := F9.two
      obtain ⟨q2, q3⟩ := F11.two
      go_wp2
      go_meet
      exact ⟨FA, GB⟩
    · go_wp2
      go_meet
      exact ⟨FA, GB⟩
  case rest =>
    clear FA FB GB F7 HADD HSUM HSB1 HSB2
    obtain ⟨FA, GB⟩ := hcut
    obtain ⟨p0, p1⟩ := FA.two
    go_wp2_with fail
    refine (HTX.out _).mono ?_
    rintro e w3 ⟨rfl, h3⟩
    clear p0 p1
    replace FA := FA.below h3 FA.lt
    replace GB := GB.trans (h3.mono GB.size)
    clear h3
    go_wp2_with fail
    refine (HPA.out _).mono ?_
    rintro e w4 ⟨rfl, h4⟩
    replace FA := FA.below h4 FA.lt
    replace GB := GB.trans (h4.mono GB.size)
    clear h4
    go_upto_region 10 with fail
    have F13 := Blk.new w4 24 #[.int .u64 (ah : Int), .int .u64 (al : Int)]
    replace FA := FA.alloc (.cells #[.int .u64 (ah : Int), .int .u64 (al : Int)] 24)
    replace GB := GB.alloc GB.size (.cells #[.int .u64 (ah : Int), .int .u64 (al : Int)] 24)
    generalize w4.alloc (.cells #[.int .u64 (ah : Int), .int .u64 (al : Int)] 24) = V4 at F13 FA GB ⊢
    generalize w4.heap.size = g13 at F13 ⊢
    obtain ⟨p0, p1⟩ := FA.two
    obtain ⟨q0, q1⟩ := F13.two
    go_upto_region 12 with fail
    clear q0 q1 F13
    by_cases hd0 : d = 0
    · subst hd0
      have HD0 : Hid (∀ u, Calls Try.prog 21 #[.agg #[.int .u64 (ah : Int), .int .u64 (al : Int)], .int .u64 0] u (Ans (.tuple #[.agg #[.int .u64 0, .int .u64 0], .int .u64 0, .int .i64 130]) u)) := Lib.hid (fun u => div_nought ah al u)
      go_wp2_with fail
      refine (HD0.out _).mono ?_
      rintro e w5 ⟨rfl, h5⟩
      replace GB := GB.trans (h5.mono GB.size)
      replace GB := GB.alloc GB.size (.cells #[.int .u64 0, .int .u64 0] 24)
      clear h5 p0 p1 FA
      go_wp2
      go_ret
      exact ⟨rfl, GB⟩
    · have hdp : 0 < d := by omega
      obtain ⟨qh, ql, r, lh, ll, hl, xh, xl, hb, HDV, HLO, HHI, HX, HY⟩ := back_numbers ah al d hdp HN.out.1 HN.out.2.1 HN.out.2.2
      have HRD := Lib.hid hb
      have HOF := Lib.hid (fun u => of_wide r u)
      clear hd0 hdp hb
      go_wp2_with fail
      refine (HDV.out _).mono ?_
      rintro e w5 ⟨rfl, h5⟩
      clear p0 p1
      replace FA := FA.below h5 FA.lt
      replace GB := GB.trans (h5.mono GB.size)
      clear h5
      go_upto_region 13 with fail
      have F15 := Blk.new w5 24 #[.int .u64 (qh : Int), .int .u64 (ql : Int)]
      replace FA := FA.alloc (.cells #[.int .u64 (qh : Int), .int .u64 (ql : Int)] 24)
      replace GB := GB.alloc GB.size (.cells #[.int .u64 (qh : Int), .int .u64 (ql : Int)] 24)
      generalize w5.alloc (.cells #[.int .u64 (qh : Int), .int .u64 (ql : Int)] 24) = V5 at F15 FA GB ⊢
      generalize w5.heap.size = g15 at F15 ⊢
      go_upto_region 15 with fail
      go_cut [18, 19] (fun s18 s19 wx => ∃ g18 g19 : Nat, s18 = .pointer (some ⟨g18, 0, none⟩) ∧ s19 = .pointer (some ⟨g19, 0, none⟩) ∧ Blk wx g18 24 #[.int .u64 (lh : Int), .int .u64 (ll : Int)] ∧ Blk wx g19 24 #[.int .u64 0, .int .u64 (hl : Int)] ∧ Blk wx w.heap.size 24 #[.int .u64 (ah : Int), .int .u64 (al : Int)] ∧ Below w.heap.size w wx)
      case first =>
        replace FA : Blk V5.drew _ _ _ := FA
        replace F15 : Blk V5.drew _ _ _ := F15
        replace GB := GB.drew
        refine wp_region_held_drew (S := fun W => Blk W g15 24 #[.int .u64 (qh : Int), .int .u64 (ql : Int)]) (by kernel_rfl) F15 (fun hS => ?_)
        generalize V5.drew = V at FA F15 GB hS ⊢
        refine wpAnyH_take (i := 0) (v := .pointer (some ⟨g15, 1, none⟩)) rfl (by kernel_rfl) (by kernel_rfl) (by kernel_rfl) (fun _ _ _ h => h) (Or.inl ⟨by rfl, fun u hSw => (by go_simp)⟩) hS ?_
        refine wpAnyH_take (i := 1) (v := .int .u64 (ql : Int)) rfl (by kernel_rfl) (by kernel_rfl) (by kernel_rfl) (fun _ _ _ h => h) (Or.inl ⟨by rfl, fun u hSw => (by have c : u.cell? ⟨g15, 1, none⟩ = some (.int .u64 (ql : Int)) := (hSw).cell 1; go_simp)⟩) hS ?_
        refine wpAnyH_take (i := 2) (v := .int .u64 (d : Int)) rfl (by kernel_rfl) (by kernel_rfl) (by kernel_rfl) (fun _ _ _ h => h) (Or.inl ⟨by rfl, fun u hSw => (by go_simp)⟩) hS ?_
        refine wpAnyH_take (i := 4) (v := .pointer (some ⟨g15, 0, none⟩)) rfl (by kernel_rfl) (by kernel_rfl) (by kernel_rfl) (fun _ _ _ h => h) (Or.inl ⟨by rfl, fun u hSw => (by go_simp)⟩) hS ?_
        refine wpAnyH_take (i := 5) (v := .int .u64 (qh : Int)) rfl (by kernel_rfl) (by kernel_rfl) (by kernel_rfl) (fun _ _ _ h => h) (Or.inl ⟨by rfl, fun u hSw => (by have c : u.cell? ⟨g15, 0, none⟩ = some (.int .u64 (qh : Int)) := (hSw).cell 0; go_simp)⟩) hS ?_
        refine wpAnyH_take (i := 6) (v := .int .u64 (d : Int)) rfl (by kernel_rfl) (by kernel_rfl) (by kernel_rfl) (fun _ _ _ h => h) (Or.inl ⟨by rfl, fun u hSw => (by go_simp)⟩) hS ?_
        refine wpAnyH_ready (rs := [3, 8, 9]) (by kernel_rfl) (by simp) ?_
        refine AllReadyH.cons rfl (fun K hK => ?_) (AllReadyH.cons rfl (fun K hK => ?_) (AllReadyH.cons rfl (fun K hK => ?_) (AllReadyH.nil)))
        · skip
          go_simp
          refine (HLO.out _).mono ?_
          rintro e w1 ⟨rfl, h1⟩
          replace FA := FA.below h1 FA.lt
          replace F15 := F15.below h1 F15.lt
          replace GB := GB.trans (h1.mono GB.size)
          clear h1
          refine hK.out _ _ F15 (fun hS => ?_)
          clear hK K
          refine wpAnyH_ready (rs := [7, 8, 9]) (by kernel_rfl) (by simp) ?_
          refine AllReadyH.cons rfl (fun K hK => ?_) (AllReadyH.cons rfl (fun K hK => ?_) (AllReadyH.cons rfl (fun K hK => ?_) (AllReadyH.nil)))
          · skip
            go_simp
            refine (HHI.out _).mono ?_
            rintro e w2 ⟨rfl, h2⟩
            replace FA := FA.below h2 FA.lt
            replace F15 := F15.below h2 F15.lt
            replace GB := GB.trans (h2.mono GB.size)
            clear h2
            refine hK.out _ _ F15 (fun hS => ?_)
            clear hK K
            refine wpAnyH_ready (rs := [8, 9]) (by kernel_rfl) (by simp) ?_
            refine AllReadyH.cons rfl (fun K hK => ?_) (AllReadyH.cons rfl (fun K hK => ?_) (AllReadyH.nil))
            · skip
              go_simp
              have F18 := Blk.new w2 24 (#[.int .u64 0, .int .u64 0])
              have l18A : w.heap.size < w2.heap.size := FA.lt
              replace FA := FA.alloc (.cells (#[.int .u64 0, .int .u64 0]) 24)
              have l18Q : g15 < w2.heap.size := F15.lt
              replace F15 := F15.alloc (.cells (#[.int .u64 0, .int .u64 0]) 24)
              have L18 := GB.size
              replace GB := GB.alloc GB.size (.cells (#[.int .u64 0, .int .u64 0]) 24)
              refine hK.out _ _ F15 (fun hS => ?_)
              clear hK K
              generalize w2.alloc (.cells (#[.int .u64 0, .int .u64 0]) 24) = U3 at F18 FA F15 GB hS ⊢
              generalize w2.heap.size = g18 at F18 l18A l18Q L18 ⊢
              refine wpAnyH_ready (rs := [9]) (by kernel_rfl) (by simp) ?_
              refine AllReadyH.cons rfl (fun K hK => ?_) (AllReadyH.nil)
              go_simp
              have F19 := Blk.new U3 24 (#[.int .u64 0, .int .u64 0])
              have l19A : w.heap.size < U3.heap.size := FA.lt
              replace FA := FA.alloc (.cells (#[.int .u64 0, .int .u64 0]) 24)
              have l19Q : g15 < U3.heap.size := F15.lt
              replace F15 := F15.alloc (.cells (#[.int .u64 0, .int .u64 0]) 24)
              have l1918 : g18 < U3.heap.size := F18.lt
              replace F18 := F18.alloc (.cells (#[.int .u64 0, .int .u64 0]) 24)
              have L19 := GB.size
              replace GB := GB.alloc GB.size (.cells (#[.int .u64 0, .int .u64 0]) 24)
              refine hK.out _ _ F15 (fun hS => ?_)
              clear hK K
              generalize U3.alloc (.cells (#[.int .u64 0, .int .u64 0]) 24) = U4 at F19 FA F15 F18 GB hS ⊢
              generalize U3.heap.size = g19 at F19 l19A l19Q l1918 L19 ⊢
              refine wpAnyH_ready (rs := [10]) (by kernel_rfl) (by simp) ?_
              refine AllReadyH.cons rfl (fun K hK => ?_) (AllReadyH.nil)
              have O5 := F18
              replace FA := FA.other (g' := g18) (cs' := #[.int .u64 (lh : Int), .int .u64 (ll : Int)]) (by omega)
              replace F15 := F15.other (g' := g18) (cs' := #[.int .u64 (lh : Int), .int .u64 (ll : Int)]) (by omega)
              replace F19 := F19.other (g' := g18) (cs' := #[.int .u64 (lh : Int), .int .u64 (ll : Int)]) (by omega)
              replace F18 := F18.row (cs' := #[.int .u64 (lh : Int), .int .u64 (ll : Int)])
              replace GB := below_row (g' := g18) (cs' := #[.int .u64 (lh : Int), .int .u64 (ll : Int)]) GB (by omega)
              refine keep_row rfl 24 (.tmp 18) (.tmp 88) rfl _ _ rfl rfl _ _ O5 (by kernel_rfl) rfl (by simp [Value.oneCell']) (hK.out _ _ F15 (fun hS => ?_))
              clear hK K O5
              generalize U4.setRow (g18) (#[.int .u64 (lh : Int), .int .u64 (ll : Int)]) = U5 at FA F15 F18 F19 GB hS ⊢
              refine wpAnyH_ready (rs := [11]) (by kernel_rfl) (by simp) ?_
              refine AllReadyH.cons rfl (fun K hK => ?_) (AllReadyH.nil)
              have O6 := F19
              replace FA := FA.other (g' := g19) (cs' := #[.int .u64 0, .int .u64 (hl : Int)]) (by omega)
              replace F15 := F15.other (g' := g19) (cs' := #[.int .u64 0, .int .u64 (hl : Int)]) (by omega)
              replace F18 := F18.other (g' := g19) (cs' := #[.int .u64 0, .int .u64 (hl : Int)]) (by omega)
              replace F19 := F19.row (cs' := #[.int .u64 0, .int .u64 (hl : Int)])
              replace GB := below_row (g' := g19) (cs' := #[.int .u64 0, .int .u64 (hl : Int)]) GB (by omega)
              refine keep_row rfl 24 (.tmp 19) (.tmp 92) rfl _ _ rfl rfl _ _ O6 (by kernel_rfl) rfl (by simp [Value.oneCell']) (hK.out _ _ F15 (fun hS => ?_))
              clear hK K O6
              generalize U5.setRow (g19) (#[.int .u64 0, .int .u64 (hl : Int)]) = U6 at FA F15 F18 F19 GB hS ⊢
              refine wpAnyH_done (by kernel_rfl) ?_ _
              go_wp2_with fail
              go_meet
              exact ⟨g18, g19, rfl, rfl, F18, F19, FA, GB⟩
            · skip
              go_simp
              have F19 := Blk.new w2 24 (#[.int .u64 0, .int .u64 0])
              have l19A : w.heap.size < w2.heap.size := FA.lt
              replace FA := FA.alloc (.cells (#[.int .u64 0, .int .u64 0]) 24)
              have l19Q : g15 < w2.heap.size := F15.lt
              replace F15 := F15.alloc (.cells (#[.int .u64 0, .int .u64 0]) 24)
              have L19 := GB.size
              replace GB := GB.alloc GB.size (.cells (#[.int .u64 0, .int .u64 0]) 24)
              refine hK.out _ _ F15 (fun hS => ?_)
              clear hK K
              generalize w2.alloc (.cells (#[.int .u64 0, .int .u64 0]) 24) = U7 at F19 FA F15 GB hS ⊢
              generalize w2.heap.size = g19 at F19 l19A l19Q L19 ⊢
              refine wpAnyH_ready (rs := [8]) (by kernel_rfl) (by simp) ?_
              refine AllReadyH.cons rfl (fun K hK => ?_) (AllReadyH.nil)
              go_simp
              have F18 := Blk.new U7 24 (#[.int .u64 0, .int .u64 0])
              have l18A : w.heap.size < U7.heap.size := FA.lt
              replace FA := FA.alloc (.cells (#[.int .u64 0, .int .u64 0]) 24)
              have l18Q : g15 < U7.heap.size := F15.lt
              replace F15 := F15.alloc (.cells (#[.int .u64 0, .int .u64 0]) 24)
              have l1819 : g19 < U7.heap.size := F19.lt
              replace F19 := F19.alloc (.cells (#[.int .u64 0, .int .u64 0]) 24)
              have L18 := GB.size
              replace GB := GB.alloc GB.size (.cells (#[.int .u64 0, .int .u64 0]) 24)
              refine hK.out _ _ F15 (fun hS => ?_)
              clear hK K
              generalize U7.alloc (.cells (#[.int .u64 0, .int .u64 0]) 24) = U8 at F18 FA F15 F19 GB hS ⊢
              generalize U7.heap.size = g18 at F18 l18A l18Q l1819 L18 ⊢
              refine wpAnyH_ready (rs := [10]) (by kernel_rfl) (by simp) ?_
              refine AllReadyH.cons rfl (fun K hK => ?_) (AllReadyH.nil)
              have O9 := F18
              replace FA := FA.other (g' := g18) (cs' := #[.int .u64 (lh : Int), .int .u64 (ll : Int)]) (by omega)
              replace F15 := F15.other (g' := g18) (cs' := #[.int .u64 (lh : Int), .int .u64 (ll : Int)]) (by omega)
              replace F19 := F19.other (g' := g18) (cs' := #[.int .u64 (lh : Int), .int .u64 (ll : Int)]) (by omega)
              replace F18 := F18.row (cs' := #[.int .u64 (lh : Int), .int .u64 (ll : Int)])
              replace GB := below_row (g' := g18) (cs' := #[.int .u64 (lh : Int), .int .u64 (ll : Int)]) GB (by omega)
              refine keep_row rfl 24 (.tmp 18) (.tmp 88) rfl _ _ rfl rfl _ _ O9 (by kernel_rfl) rfl (by simp [Value.oneCell']) (hK.out _ _ F15 (fun hS => ?_))
              clear hK K O9
              generalize U8.setRow (g18) (#[.int .u64 (lh : Int), .int .u64 (ll : Int)]) = U9 at FA F15 F19 F18 GB hS ⊢
              refine wpAnyH_ready (rs := [11]) (by kernel_rfl) (by simp) ?_
              refine AllReadyH.cons rfl (fun K hK => ?_) (AllReadyH.nil)
              have O10 := F19
              replace FA := FA.other (g' := g19) (cs' := #[.int .u64 0, .int .u64 (hl : Int)]) (by omega)
              replace F15 := F15.other (g' := g19) (cs' := #[.int .u64 0, .int .u64 (hl : Int)]) (by omega)
              replace F18 := F18.other (g' := g19) (cs' := #[.int .u64 0, .int .u64 (hl : Int)]) (by omega)
              replace F19 := F19.row (cs' := #[.int .u64 0, .int .u64 (hl : Int)])
              replace GB := below_row (g' := g19) (cs' := #[.int .u64 0, .int .u64 (hl : Int)]) GB (by omega)
              refine keep_row rfl 24 (.tmp 19) (.tmp 92) rfl _ _ rfl rfl _ _ O10 (by kernel_rfl) rfl (by simp [Value.oneCell']) (hK.out _ _ F15 (fun hS => ?_))
              clear hK K O10
              generalize U9.setRow (g19) (#[.int .u64 0, .int .u64 (hl : Int)]) = U10 at FA F15 F19 F18 GB hS ⊢
              refine wpAnyH_done (by kernel_rfl) ?_ _
              go_wp2_with fail
              go_meet
              exact ⟨g18, g19, rfl, rfl, F18, F19, FA, GB⟩
          · skip
            go_simp
            have F18 := Blk.new w1 24 (#[.int .u64 0, .int .u64 0])
            have l18A : w.heap.size < w1.heap.size := FA.lt
            replace FA := FA.alloc (.cells (#[.int .u64 0, .int .u64 0]) 24)
            have l18Q : g15 < w1.heap.size := F15.lt
            replace F15 := F15.alloc (.cells (#[.int .u64 0, .int .u64 0]) 24)
            have L18 := GB.size
            replace GB := GB.alloc GB.size (.cells (#[.int .u64 0, .int .u64 0]) 24)
            refine hK.out _ _ F15 (fun hS => ?_)
            clear hK K
            generalize w1.alloc (.cells (#[.int .u64 0, .int .u64 0]) 24) = U11 at F18 FA F15 GB hS ⊢
            generalize w1.heap.size = g18 at F18 l18A l18Q L18 ⊢
            refine wpAnyH_ready (rs := [7, 9]) (by kernel_rfl) (by simp) ?_
            refine AllReadyH.cons rfl (fun K hK => ?_) (AllReadyH.cons rfl (fun K hK => ?_) (AllReadyH.nil))
            · skip
              go_simp
              refine (HHI.out _).mono ?_
              rintro e w12 ⟨rfl, h12⟩
              replace FA := FA.below h12 FA.lt
              replace F15 := F15.below h12 F15.lt
              replace F18 := F18.below h12 F18.lt
              replace GB := GB.trans (h12.mono GB.size)
              clear h12
              refine hK.out _ _ F15 (fun hS => ?_)
              clear hK K
              refine wpAnyH_ready (rs := [9]) (by kernel_rfl) (by simp) ?_
              refine AllReadyH.cons rfl (fun K hK => ?_) (AllReadyH.nil)
              go_simp
              have F19 := Blk.new w12 24 (#[.int .u64 0, .int .u64 0])
              have l19A : w.heap.size < w12.heap.size := FA.lt
              replace FA := FA.alloc (.cells (#[.int .u64 0, .int .u64 0]) 24)
              have l19Q : g15 < w12.heap.size := F15.lt
              replace F15 := F15.alloc (.cells (#[.int .u64 0, .int .u64 0]) 24)
              have l1918 : g18 < w12.heap.size := F18.lt
              replace F18 := F18.alloc (.cells (#[.int .u64 0, .int .u64 0]) 24)
              have L19 := GB.size
              replace GB := GB.alloc GB.size (.cells (#[.int .u64 0, .int .u64 0]) 24)
              refine hK.out _ _ F15 (fun hS => ?_)
              clear hK K
              generalize w12.alloc (.cells (#[.int .u64 0, .int .u64 0]) 24) = U13 at F19 FA F15 F18 GB hS ⊢
              generalize w12.heap.size = g19 at F19 l19A l19Q l1918 L19 ⊢
              refine wpAnyH_ready (rs := [10]) (by kernel_rfl) (by simp) ?_
              refine AllReadyH.cons rfl (fun K hK => ?_) (AllReadyH.nil)
              have O14 := F18
              replace FA := FA.other (g' := g18) (cs' := #[.int .u64 (lh : Int), .int .u64 (ll : Int)]) (by omega)
              replace F15 := F15.other (g' := g18) (cs' := #[.int .u64 (lh : Int), .int .u64 (ll : Int)]) (by omega)
              replace F19 := F19.other (g' := g18) (cs' := #[.int .u64 (lh : Int), .int .u64 (ll : Int)]) (by omega)
              replace F18 := F18.row (cs' := #[.int .u64 (lh : Int), .int .u64 (ll : Int)])
              replace GB := below_row (g' := g18) (cs' := #[.int .u64 (lh : Int), .int .u64 (ll : Int)]) GB (by omega)
              refine keep_row rfl 24 (.tmp 18) (.tmp 88) rfl _ _ rfl rfl _ _ O14 (by kernel_rfl) rfl (by simp [Value.oneCell']) (hK.out _ _ F15 (fun hS => ?_))
              clear hK K O14
              generalize U13.setRow (g18) (#[.int .u64 (lh : Int), .int .u64 (ll : Int)]) = U14 at FA F15 F18 F19 GB hS ⊢
              refine wpAnyH_ready (rs := [11]) (by kernel_rfl) (by simp) ?_
              refine AllReadyH.cons rfl (fun K hK => ?_) (AllReadyH.nil)
              have O15 := F19
              replace FA := FA.other (g' := g19) (cs' := #[.int .u64 0, .int .u64 (hl : Int)]) (by omega)
              replace F15 := F15.other (g' := g19) (cs' := #[.int .u64 0, .int .u64 (hl : Int)]) (by omega)
              replace F18 := F18.other (g' := g19) (cs' := #[.int .u64 0, .int .u64 (hl : Int)]) (by omega)
              replace F19 := F19.row (cs' := #[.int .u64 0, .int .u64 (hl : Int)])
              replace GB := below_row (g' := g19) (cs' := #[.int .u64 0, .int .u64 (hl : Int)]) GB (by omega)
              refine keep_row rfl 24 (.tmp 19) (.tmp 92) rfl _ _ rfl rfl _ _ O15 (by kernel_rfl) rfl (by simp [Value.oneCell']) (hK.out _ _ F15 (fun hS => ?_))
              clear hK K O15
              generalize U14.setRow (g19) (#[.int .u64 0, .int .u64 (hl : Int)]) = U15 at FA F15 F18 F19 GB hS ⊢
              refine wpAnyH_done (by kernel_rfl) ?_ _
              go_wp2_with fail
              go_meet
              exact ⟨g18, g19, rfl, rfl, F18, F19, FA, GB⟩
            · skip
              go_simp
              have F19 := Blk.new U11 24 (#[.int .u64 0, .int .u64 0])
              have l19A : w.heap.size < U11.heap.size := FA.lt
              replace FA := FA.alloc (.cells (#[.int .u64 0, .int .u64 0]) 24)
              have l19Q : g15 < U11.heap.size := F15.lt
              replace F15 := F15.alloc (.cells (#[.int .u64 0, .int .u64 0]) 24)
              have l1918 : g18 < U11.heap.size := F18.lt
              replace F18 := F18.alloc (.cells (#[.int .u64 0, .int .u64 0]) 24)
              have L19 := GB.size
              replace GB := GB.alloc GB.size (.cells (#[.int .u64 0, .int .u64 0]) 24)
              refine hK.out _ _ F15 (fun hS => ?_)
              clear hK K
              generalize U11.alloc (.cells (#[.int .u64 0, .int .u64 0]) 24) = U16 at F19 FA F15 F18 GB hS ⊢
              generalize U11.heap.size = g19 at F19 l19A l19Q l1918 L19 ⊢
              refine wpAnyH_ready (rs := [7]) (by kernel_rfl) (by simp) ?_
              refine AllReadyH.cons rfl (fun K hK => ?_) (AllReadyH.nil)
              go_simp
              refine (HHI.out _).mono ?_
              rintro e w17 ⟨rfl, h17⟩
              replace FA := FA.below h17 FA.lt
              replace F15 := F15.below h17 F15.lt
              replace F18 := F18.below h17 F18.lt
              replace F19 := F19.below h17 F19.lt
              replace GB := GB.trans (h17.mono GB.size)
              clear h17
              refine hK.out _ _ F15 (fun hS => ?_)
              clear hK K
              refine wpAnyH_ready (rs := [10]) (by kernel_rfl) (by simp) ?_
              refine AllReadyH.cons rfl (fun K hK => ?_) (AllReadyH.nil)
              have O18 := F18
              replace FA := FA.other (g' := g18) (cs' := #[.int .u64 (lh : Int), .int .u64 (ll : Int)]) (by omega)
              replace F15 := F15.other (g' := g18) (cs' := #[.int .u64 (lh : Int), .int .u64 (ll : Int)]) (by omega)
              replace F19 := F19.other (g' := g18) (cs' := #[.int .u64 (lh : Int), .int .u64 (ll : Int)]) (by omega)
              replace F18 := F18.row (cs' := #[.int .u64 (lh : Int), .int .u64 (ll : Int)])
              replace GB := below_row (g' := g18) (cs' := #[.int .u64 (lh : Int), .int .u64 (ll : Int)]) GB (by omega)
              refine keep_row rfl 24 (.tmp 18) (.tmp 88) rfl _ _ rfl rfl _ _ O18 (by kernel_rfl) rfl (by simp [Value.oneCell']) (hK.out _ _ F15 (fun hS => ?_))
              clear hK K O18
              generalize w17.setRow (g18) (#[.int .u64 (lh : Int), .int .u64 (ll : Int)]) = U18 at FA F15 F18 F19 GB hS ⊢
              refine wpAnyH_ready (rs := [11]) (by kernel_rfl) (by simp) ?_
              refine AllReadyH.cons rfl (fun K hK => ?_) (AllReadyH.nil)
              have O19 := F19
              replace FA := FA.other (g' := g19) (cs' := #[.int .u64 0, .int .u64 (hl : Int)]) (by omega)
              replace F15 := F15.other (g' := g19) (cs' := #[.int .u64 0, .int .u64 (hl : Int)]) (by omega)
              replace F18 := F18.other (g' := g19) (cs' := #[.int .u64 0, .int .u64 (hl : Int)]) (by omega)
              replace F19 := F19.row (cs' := #[.int .u64 0, .int .u64 (hl : Int)])
              replace GB := below_row (g' := g19) (cs' := #[.int .u64 0, .int .u64 (hl : Int)]) GB (by omega)
              refine keep_row rfl 24 (.tmp 19) (.tmp 92) rfl _ _ rfl rfl _ _ O19 (by kernel_rfl) rfl (by simp [Value.oneCell']) (hK.out _ _ F15 (fun hS => ?_))
              clear hK K O19
              generalize U18.setRow (g19) (#[.int .u64 0, .int .u64 (hl : Int)]) = U19 at FA F15 F18 F19 GB hS ⊢
              refine wpAnyH_done (by kernel_rfl) ?_ _
              go_wp2_with fail
              go_meet
              exact ⟨g18, g19, rfl, rfl, F18, F19, FA, GB⟩
          · skip
            go_simp
            have F19 := Blk.new w1 24 (#[.int .u64 0, .int .u64 0])
            have l19A : w.heap.size < w1.heap.size := FA.lt
            replace FA := FA.alloc (.cells (#[.int .u64 0, .int .u64 0]) 24)
            have l19Q : g15 < w1.heap.size := F15.lt
            replace F15 := F15.alloc (.cells (#[.int .u64 0, .int .u64 0]) 24)
            have L19 := GB.size
            replace GB := GB.alloc GB.size (.cells (#[.int .u64 0, .int .u64 0]) 24)
            refine hK.out _ _ F15 (fun hS => ?_)
            clear hK K
            generalize w1.alloc (.cells (#[.int .u64 0, .int .u64 0]) 24) = U20 at F19 FA F15 GB hS ⊢
            generalize w1.heap.size = g19 at F19 l19A l19Q L19 ⊢
            refine wpAnyH_ready (rs := [7, 8]) (by kernel_rfl) (by simp) ?_
            refine AllReadyH.cons rfl (fun K hK => ?_) (AllReadyH.cons rfl (fun K hK => ?_) (AllReadyH.nil))
            · skip
              go_simp
              refine (HHI.out _).mono ?_
              rintro e w21 ⟨rfl, h21⟩
              replace FA := FA.below h21 FA.lt
              replace F15 := F15.below h21 F15.lt
              replace F19 := F19.below h21 F19.lt
              replace GB := GB.trans (h21.mono GB.size)
              clear h21
              refine hK.out _ _ F15 (fun hS => ?_)
              clear hK K
              refine wpAnyH_ready (rs := [8]) (by kernel_rfl) (by simp) ?_
              refine AllReadyH.cons rfl (fun K hK => ?_) (AllReadyH.nil)
              go_simp
              have F18 := Blk.new w21 24 (#[.int .u64 0, .int .u64 0])
              have l18A : w.heap.size < w21.heap.size := FA.lt
              replace FA := FA.alloc (.cells (#[.int .u64 0, .int .u64 0]) 24)
              have l18Q : g15 < w21.heap.size := F15.lt
              replace F15 := F15.alloc (.cells (#[.int .u64 0, .int .u64 0]) 24)
              have l1819 : g19 < w21.heap.size := F19.lt
              replace F19 := F19.alloc (.cells (#[.int .u64 0, .int .u64 0]) 24)
              have L18 := GB.size
              replace GB := GB.alloc GB.size (.cells (#[.int .u64 0, .int .u64 0]) 24)
              refine hK.out _ _ F15 (fun hS => ?_)
              clear hK K
              generalize w21.alloc (.cells (#[.int .u64 0, .int .u64 0]) 24) = U22 at F18 FA F15 F19 GB hS ⊢
              generalize w21.heap.size = g18 at F18 l18A l18Q l1819 L18 ⊢
              refine wpAnyH_ready (rs := [10]) (by kernel_rfl) (by simp) ?_
              refine AllReadyH.cons rfl (fun K hK => ?_) (AllReadyH.nil)
              have O23 := F18
              replace FA := FA.other (g' := g18) (cs' := #[.int .u64 (lh : Int), .int .u64 (ll : Int)]) (by omega)
              replace F15 := F15.other (g' := g18) (cs' := #[.int .u64 (lh : Int), .int .u64 (ll : Int)]) (by omega)
              replace F19 := F19.other (g' := g18) (cs' := #[.int .u64 (lh : Int), .int .u64 (ll : Int)]) (by omega)
              replace F18 := F18.row (cs' := #[.int .u64 (lh : Int), .int .u64 (ll : Int)])
              replace GB := below_row (g' := g18) (cs' := #[.int .u64 (lh : Int), .int .u64 (ll : Int)]) GB (by omega)
              refine keep_row rfl 24 (.tmp 18) (.tmp 88) rfl _ _ rfl rfl _ _ O23 (by kernel_rfl) rfl (by simp [Value.oneCell']) (hK.out _ _ F15 (fun hS => ?_))
              clear hK K O23
              generalize U22.setRow (g18) (#[.int .u64 (lh : Int), .int .u64 (ll : Int)]) = U23 at FA F15 F19 F18 GB hS ⊢
              refine wpAnyH_ready (rs := [11]) (by kernel_rfl) (by simp) ?_
              refine AllReadyH.cons rfl (fun K hK => ?_) (AllReadyH.nil)
              have O24 := F19
              replace FA := FA.other (g' := g19) (cs' := #[.int .u64 0, .int .u64 (hl : Int)]) (by omega)
              replace F15 := F15.other (g' := g19) (cs' := #[.int .u64 0, .int .u64 (hl : Int)]) (by omega)
              replace F18 := F18.other (g' := g19) (cs' := #[.int .u64 0, .int .u64 (hl : Int)]) (by omega)
              replace F19 := F19.row (cs' := #[.int .u64 0, .int .u64 (hl : Int)])
              replace GB := below_row (g' := g19) (cs' := #[.int .u64 0, .int .u64 (hl : Int)]) GB (by omega)
              refine keep_row rfl 24 (.tmp 19) (.tmp 92) rfl _ _ rfl rfl _ _ O24 (by kernel_rfl) rfl (by simp [Value.oneCell']) (hK.out _ _ F15 (fun hS => ?_))
              clear hK K O24
              generalize U23.setRow (g19) (#[.int .u64 0, .int .u64 (hl : Int)]) = U24 at FA F15 F19 F18 GB hS ⊢
              refine wpAnyH_done (by kernel_rfl) ?_ _
              go_wp2_with fail
              go_meet
              exact ⟨g18, g19, rfl, rfl, F18, F19, FA, GB⟩
            · skip
              go_simp
              have F18 := Blk.new U20 24 (#[.int .u64 0, .int .u64 0])
              have l18A : w.heap.size < U20.heap.size := FA.lt
              replace FA := FA.alloc (.cells (#[.int .u64 0, .int .u64 0]) 24)
              have l18Q : g15 < U20.heap.size := F15.lt
              replace F15 := F15.alloc (.cells (#[.int .u64 0, .int .u64 0]) 24)
              have l1819 : g19 < U20.heap.size := F19.lt
              replace F19 := F19.alloc (.cells (#[.int .u64 0, .int .u64 0]) 24)
              have L18 := GB.size
              replace GB := GB.alloc GB.size (.cells (#[.int .u64 0, .int .u64 0]) 24)
              refine hK.out _ _ F15 (fun hS => ?_)
              clear hK K
              generalize U20.alloc (.cells (#[.int .u64 0, .int .u64 0]) 24) = U25 at F18 FA F15 F19 GB hS ⊢
              generalize U20.heap.size = g18 at F18 l18A l18Q l1819 L18 ⊢
              refine wpAnyH_ready (rs := [7]) (by kernel_rfl) (by simp) ?_
              refine AllReadyH.cons rfl (fun K hK => ?_) (AllReadyH.nil)
              go_simp
              refine (HHI.out _).mono ?_
              rintro e w26 ⟨rfl, h26⟩
              replace FA := FA.below h26 FA.lt
              replace F15 := F15.below h26 F15.lt
              replace F19 := F19.below h26 F19.lt
              replace F18 := F18.below h26 F18.lt
              replace GB := GB.trans (h26.mono GB.size)
              clear h26
              refine hK.out _ _ F15 (fun hS => ?_)
              clear hK K
              refine wpAnyH_ready (rs := [10]) (by kernel_rfl) (by simp) ?_
              refine AllReadyH.cons rfl (fun K hK => ?_) (AllReadyH.nil)
              have O27 := F18
              replace FA := FA.other (g' := g18) (cs' := #[.int .u64 (lh : Int), .int .u64 (ll : Int)]) (by omega)
              replace F15 := F15.other (g' := g18) (cs' := #[.int .u64 (lh : Int), .int .u64 (ll : Int)]) (by omega)
              replace F19 := F19.other (g' := g18) (cs' := #[.int .u64 (lh : Int), .int .u64 (ll : Int)]) (by omega)
              replace F18 := F18.row (cs' := #[.int .u64 (lh : Int), .int .u64 (ll : Int)])
              replace GB := below_row (g' := g18) (cs' := #[.int .u64 (lh : Int), .int .u64 (ll : Int)]) GB (by omega)
              refine keep_row rfl 24 (.tmp 18) (.tmp 88) rfl _ _ rfl rfl _ _ O27 (by kernel_rfl) rfl (by simp [Value.oneCell']) (hK.out _ _ F15 (fun hS => ?_))
              clear hK K O27
              generalize w26.setRow (g18) (#[.int .u64 (lh : Int), .int .u64 (ll : Int)]) = U27 at FA F15 F19 F18 GB hS ⊢
              refine wpAnyH_ready (rs := [11]) (by kernel_rfl) (by simp) ?_
              refine AllReadyH.cons rfl (fun K hK => ?_) (AllReadyH.nil)
              have O28 := F19
              replace FA := FA.other (g' := g19) (cs' := #[.int .u64 0, .int .u64 (hl : Int)]) (by omega)
              replace F15 := F15.other (g' := g19) (cs' := #[.int .u64 0, .int .u64 (hl : Int)]) (by omega)
              replace F18 := F18.other (g' := g19) (cs' := #[.int .u64 0, .int .u64 (hl : Int)]) (by omega)
              replace F19 := F19.row (cs' := #[.int .u64 0, .int .u64 (hl : Int)])
              replace GB := below_row (g' := g19) (cs' := #[.int .u64 0, .int .u64 (hl : Int)]) GB (by omega)
              refine keep_row rfl 24 (.tmp 19) (.tmp 92) rfl _ _ rfl rfl _ _ O28 (by kernel_rfl) rfl (by simp [Value.oneCell']) (hK.out _ _ F15 (fun hS => ?_))
              clear hK K O28
              generalize U27.setRow (g19) (#[.int .u64 0, .int .u64 (hl : Int)]) = U28 at FA F15 F19 F18 GB hS ⊢
              refine wpAnyH_done (by kernel_rfl) ?_ _
              go_wp2_with fail
              go_meet
              exact ⟨g18, g19, rfl, rfl, F18, F19, FA, GB⟩
        · skip
          go_simp
          have F18 := Blk.new V 24 (#[.int .u64 0, .int .u64 0])
          have l18A : w.heap.size < V.heap.size := FA.lt
          replace FA := FA.alloc (.cells (#[.int .u64 0, .int .u64 0]) 24)
          have l18Q : g15 < V.heap.size := F15.lt
          replace F15 := F15.alloc (.cells (#[.int .u64 0, .int .u64 0]) 24)
          have L18 := GB.size
          replace GB := GB.alloc GB.size (.cells (#[.int .u64 0, .int .u64 0]) 24)
          refine hK.out _ _ F15 (fun hS => ?_)
          clear hK K
          generalize V.alloc (.cells (#[.int .u64 0, .int .u64 0]) 24) = U29 at F18 FA F15 GB hS ⊢
          generalize V.heap.size = g18 at F18 l18A l18Q L18 ⊢
          refine wpAnyH_ready (rs := [3, 9]) (by kernel_rfl) (by simp) ?_
          refine AllReadyH.cons rfl (fun K hK => ?_) (AllReadyH.cons rfl (fun K hK => ?_) (AllReadyH.nil))
          · skip
            go_simp
            refine (HLO.out _).mono ?_
            rintro e w30 ⟨rfl, h30⟩
            replace FA := FA.below h30 FA.lt
            replace F15 := F15.below h30 F15.lt
            replace F18 := F18.below h30 F18.lt
            replace GB := GB.trans (h30.mono GB.size)
            clear h30
            refine hK.out _ _ F15 (fun hS => ?_)
            clear hK K
            refine wpAnyH_ready (rs := [7, 9]) (by kernel_rfl) (by simp) ?_
            refine AllReadyH.cons rfl (fun K hK => ?_) (AllReadyH.cons rfl (fun K hK => ?_) (AllReadyH.nil))
            · skip
              go_simp
              refine (HHI.out _).mono ?_
              rintro e w31 ⟨rfl, h31⟩
              replace FA := FA.below h31 FA.lt
              replace F15 := F15.below h31 F15.lt
              replace F18 := F18.below h31 F18.lt
              replace GB := GB.trans (h31.mono GB.size)
              clear h31
              refine hK.out _ _ F15 (fun hS => ?_)
              clear hK K
              refine wpAnyH_ready (rs := [9]) (by kernel_rfl) (by simp) ?_
              refine AllReadyH.cons rfl (fun K hK => ?_) (AllReadyH.nil)
              go_simp
              have F19 := Blk.new w31 24 (#[.int .u64 0, .int .u64 0])
              have l19A : w.heap.size < w31.heap.size := FA.lt
              replace FA := FA.alloc (.cells (#[.int .u64 0, .int .u64 0]) 24)
              have l19Q : g15 < w31.heap.size := F15.lt
              replace F15 := F15.alloc (.cells (#[.int .u64 0, .int .u64 0]) 24)
              have l1918 : g18 < w31.heap.size := F18.lt
              replace F18 := F18.alloc (.cells (#[.int .u64 0, .int .u64 0]) 24)
              have L19 := GB.size
              replace GB := GB.alloc GB.size (.cells (#[.int .u64 0, .int .u64 0]) 24)
              refine hK.out _ _ F15 (fun hS => ?_)
              clear hK K
              generalize w31.alloc (.cells (#[.int .u64 0, .int .u64 0]) 24) = U32 at F19 FA F15 F18 GB hS ⊢
              generalize w31.heap.size = g19 at F19 l19A l19Q l1918 L19 ⊢
              refine wpAnyH_ready (rs := [10]) (by kernel_rfl) (by simp) ?_
              refine AllReadyH.cons rfl (fun K hK => ?_) (AllReadyH.nil)
              have O33 := F18
              replace FA := FA.other (g' := g18) (cs' := #[.int .u64 (lh : Int), .int .u64 (ll : Int)]) (by omega)
              replace F15 := F15.other (g' := g18) (cs' := #[.int .u64 (lh : Int), .int .u64 (ll : Int)]) (by omega)
              replace F19 := F19.other (g' := g18) (cs' := #[.int .u64 (lh : Int), .int .u64 (ll : Int)]) (by omega)
              replace F18 := F18.row (cs' := #[.int .u64 (lh : Int), .int .u64 (ll : Int)])
              replace GB := below_row (g' := g18) (cs' := #[.int .u64 (lh : Int), .int .u64 (ll : Int)]) GB (by omega)
              refine keep_row rfl 24 (.tmp 18) (.tmp 88) rfl _ _ rfl rfl _ _ O33 (by kernel_rfl) rfl (by simp [Value.oneCell']) (hK.out _ _ F15 (fun hS => ?_))
              clear hK K O33
              generalize U32.setRow (g18) (#[.int .u64 (lh : Int), .int .u64 (ll : Int)]) = U33 at FA F15 F18 F19 GB hS ⊢
              refine wpAnyH_ready (rs := [11]) (by kernel_rfl) (by simp) ?_
              refine AllReadyH.cons rfl (fun K hK => ?_) (AllReadyH.nil)
              have O34 := F19
              replace FA := FA.other (g' := g19) (cs' := #[.int .u64 0, .int .u64 (hl : Int)]) (by omega)
              replace F15 := F15.other (g' := g19) (cs' := #[.int .u64 0, .int .u64 (hl : Int)]) (by omega)
              replace F18 := F18.other (g' := g19) (cs' := #[.int .u64 0, .int .u64 (hl : Int)]) (by omega)
              replace F19 := F19.row (cs' := #[.int .u64 0, .int .u64 (hl : Int)])
              replace GB := below_row (g' := g19) (cs' := #[.int .u64 0, .int .u64 (hl : Int)]) GB (by omega)
              refine keep_row rfl 24 (.tmp 19) (.tmp 92) rfl _ _ rfl rfl _ _ O34 (by kernel_rfl) rfl (by simp [Value.oneCell']) (hK.out _ _ F15 (fun hS => ?_))
              clear hK K O34
              generalize U33.setRow (g19) (#[.int .u64 0, .int .u64 (hl : Int)]) = U34 at FA F15 F18 F19 GB hS ⊢
              refine wpAnyH_done (by kernel_rfl) ?_ _
              go_wp2_with fail
              go_meet
              exact ⟨g18, g19, rfl, rfl, F18, F19, FA, GB⟩
            · skip
              go_simp
              have F19 := Blk.new w30 24 (#[.int .u64 0, .int .u64 0])
              have l19A : w.heap.size < w30.heap.size := FA.lt
              replace FA := FA.alloc (.cells (#[.int .u64 0, .int .u64 0]) 24)
              have l19Q : g15 < w30.heap.size := F15.lt
              replace F15 := F15.alloc (.cells (#[.int .u64 0, .int .u64 0]) 24)
              have l1918 : g18 < w30.heap.size := F18.lt
              replace F18 := F18.alloc (.cells (#[.int .u64 0, .int .u64 0]) 24)
              have L19 := GB.size
              replace GB := GB.alloc GB.size (.cells (#[.int .u64 0, .int .u64 0]) 24)
              refine hK.out _ _ F15 (fun hS => ?_)
              clear hK K
              generalize w30.alloc (.cells (#[.int .u64 0, .int .u64 0]) 24) = U35 at F19 FA F15 F18 GB hS ⊢
              generalize w30.heap.size = g19 at F19 l19A l19Q l1918 L19 ⊢
              refine wpAnyH_ready (rs := [7]) (by kernel_rfl) (by simp) ?_
              refine AllReadyH.cons rfl (fun K hK => ?_) (AllReadyH.nil)
              go_simp
              refine (HHI.out _).mono ?_
              rintro e w36 ⟨rfl, h36⟩
              replace FA := FA.below h36 FA.lt
              replace F15 := F15.below h36 F15.lt
              replace F18 := F18.below h36 F18.lt
              replace F19 := F19.below h36 F19.lt
              replace GB := GB.trans (h36.mono GB.size)
              clear h36
              refine hK.out _ _ F15 (fun hS => ?_)
              clear hK K
              refine wpAnyH_ready (rs := [10]) (by kernel_rfl) (by simp) ?_
              refine AllReadyH.cons rfl (fun K hK => ?_) (AllReadyH.nil)
              have O37 := F18
              replace FA := FA.other (g' := g18) (cs' := #[.int .u64 (lh : Int), .int .u64 (ll : Int)]) (by omega)
              replace F15 := F15.other (g' := g18) (cs' := #[.int .u64 (lh : Int), .int .u64 (ll : Int)]) (by omega)
              replace F19 := F19.other (g' := g18) (cs' := #[.int .u64 (lh : Int), .int .u64 (ll : Int)]) (by omega)
              replace F18 := F18.row (cs' := #[.int .u64 (lh : Int), .int .u64 (ll : Int)])
              replace GB := below_row (g' := g18) (cs' := #[.int .u64 (lh : Int), .int .u64 (ll : Int)]) GB (by omega)
              refine keep_row rfl 24 (.tmp 18) (.tmp 88) rfl _ _ rfl rfl _ _ O37 (by kernel_rfl) rfl (by simp [Value.oneCell']) (hK.out _ _ F15 (fun hS => ?_))
              clear hK K O37
              generalize w36.setRow (g18) (#[.int .u64 (lh : Int), .int .u64 (ll : Int)]) = U37 at FA F15 F18 F19 GB hS ⊢
              refine wpAnyH_ready (rs := [11]) (by kernel_rfl) (by simp) ?_
              refine AllReadyH.cons rfl (fun K hK => ?_) (AllReadyH.nil)
              have O38 := F19
              replace FA := FA.other (g' := g19) (cs' := #[.int .u64 0, .int .u64 (hl : Int)]) (by omega)
              replace F15 := F15.other (g' := g19) (cs' := #[.int .u64 0, .int .u64 (hl : Int)]) (by omega)
              replace F18 := F18.other (g' := g19) (cs' := #[.int .u64 0, .int .u64 (hl : Int)]) (by omega)
              replace F19 := F19.row (cs' := #[.int .u64 0, .int .u64 (hl : Int)])
              replace GB := below_row (g' := g19) (cs' := #[.int .u64 0, .int .u64 (hl : Int)]) GB (by omega)
              refine keep_row rfl 24 (.tmp 19) (.tmp 92) rfl _ _ rfl rfl _ _ O38 (by kernel_rfl) rfl (by simp [Value.oneCell']) (hK.out _ _ F15 (fun hS => ?_))
              clear hK K O38
              generalize U37.setRow (g19) (#[.int .u64 0, .int .u64 (hl : Int)]) = U38 at FA F15 F18 F19 GB hS ⊢
              refine wpAnyH_done (by kernel_rfl) ?_ _
              go_wp2_with fail
              go_meet
              exact ⟨g18, g19, rfl, rfl, F18, F19, FA, GB⟩
          · skip
            go_simp
            have F19 := Blk.new U29 24 (#[.int .u64 0, .int .u64 0])
            have l19A : w.heap.size < U29.heap.size := FA.lt
            replace FA := FA.alloc (.cells (#[.int .u64 0, .int .u64 0]) 24)
            have l19Q : g15 < U29.heap.size := F15.lt
            replace F15 := F15.alloc (.cells (#[.int .u64 0, .int .u64 0]) 24)
            have l1918 : g18 < U29.heap.size := F18.lt
            replace F18 := F18.alloc (.cells (#[.int .u64 0, .int .u64 0]) 24)
            have L19 := GB.size
            replace GB := GB.alloc GB.size (.cells (#[.int .u64 0, .int .u64 0]) 24)
            refine hK.out _ _ F15 (fun hS => ?_)
            clear hK K
            generalize U29.alloc (.cells (#[.int .u64 0, .int .u64 0]) 24) = U39 at F19 FA F15 F18 GB hS ⊢
            generalize U29.heap.size = g19 at F19 l19A l19Q l1918 L19 ⊢
            refine wpAnyH_ready (rs := [3]) (by kernel_rfl) (by simp) ?_
            refine AllReadyH.cons rfl (fun K hK => ?_) (AllReadyH.nil)
            go_simp
            refine (HLO.out _).mono ?_
            rintro e w40 ⟨rfl, h40⟩
            replace FA := FA.below h40 FA.lt
            replace F15 := F15.below h40 F15.lt
            replace F18 := F18.below h40 F18.lt
            replace F19 := F19.below h40 F19.lt
            replace GB := GB.trans (h40.mono GB.size)
            clear h40
            refine hK.out _ _ F15 (fun hS => ?_)
            clear hK K
            refine wpAnyH_ready (rs := [7]) (by kernel_rfl) (by simp) ?_
            refine AllReadyH.cons rfl (fun K hK => ?_) (AllReadyH.nil)
            go_simp
            refine (HHI.out _).mono ?_
            rintro e w41 ⟨rfl, h41⟩
            replace FA := FA.below h41 FA.lt
            replace F15 := F15.below h41 F15.lt
            replace F18 := F18.below h41 F18.lt
            replace F19 := F19.below h41 F19.lt
            replace GB := GB.trans (h41.mono GB.size)
            clear h41
            refine hK.out _ _ F15 (fun hS => ?_)
            clear hK K
            refine wpAnyH_ready (rs := [10]) (by kernel_rfl) (by simp) ?_
            refine AllReadyH.cons rfl (fun K hK => ?_) (AllReadyH.nil)
            have O42 := F18
            replace FA := FA.other (g' := g18) (cs' := #[.int .u64 (lh : Int), .int .u64 (ll : Int)]) (by omega)
            replace F15 := F15.other (g' := g18) (cs' := #[.int .u64 (lh : Int), .int .u64 (ll : Int)]) (by omega)
            replace F19 := F19.other (g' := g18) (cs' := #[.int .u64 (lh : Int), .int .u64 (ll : Int)]) (by omega)
            replace F18 := F18.row (cs' := #[.int .u64 (lh : Int), .int .u64 (ll : Int)])
            replace GB := below_row (g' := g18) (cs' := #[.int .u64 (lh : Int), .int .u64 (ll : Int)]) GB (by omega)
            refine keep_row rfl 24 (.tmp 18) (.tmp 88) rfl _ _ rfl rfl _ _ O42 (by kernel_rfl) rfl (by simp [Value.oneCell']) (hK.out _ _ F15 (fun hS => ?_))
            clear hK K O42
            generalize w41.setRow (g18) (#[.int .u64 (lh : Int), .int .u64 (ll : Int)]) = U42 at FA F15 F18 F19 GB hS ⊢
            refine wpAnyH_ready (rs := [11]) (by kernel_rfl) (by simp) ?_
            refine AllReadyH.cons rfl (fun K hK => ?_) (AllReadyH.nil)
            have O43 := F19
            replace FA := FA.other (g' := g19) (cs' := #[.int .u64 0, .int .u64 (hl : Int)]) (by omega)
            replace F15 := F15.other (g' := g19) (cs' := #[.int .u64 0, .int .u64 (hl : Int)]) (by omega)
            replace F18 := F18.other (g' := g19) (cs' := #[.int .u64 0, .int .u64 (hl : Int)]) (by omega)
            replace F19 := F19.row (cs' := #[.int .u64 0, .int .u64 (hl : Int)])
            replace GB := below_row (g' := g19) (cs' := #[.int .u64 0, .int .u64 (hl : Int)]) GB (by omega)
            refine keep_row rfl 24 (.tmp 19) (.tmp 92) rfl _ _ rfl rfl _ _ O43 (by kernel_rfl) rfl (by simp [Value.oneCell']) (hK.out _ _ F15 (fun hS => ?_))
            clear hK K O43
            generalize U42.setRow (g19) (#[.int .u64 0, .int .u64 (hl : Int)]) = U43 at FA F15 F18 F19 GB hS ⊢
            refine wpAnyH_done (by kernel_rfl) ?_ _
            go_wp2_with fail
            go_meet
            exact ⟨g18, g19, rfl, rfl, F18, F19, FA, GB⟩
        · skip
          go_simp
          have F19 := Blk.new V 24 (#[.int .u64 0, .int .u64 0])
          have l19A : w.heap.size < V.heap.size := FA.lt
          replace FA := FA.alloc (.cells (#[.int .u64 0, .int .u64 0]) 24)
          have l19Q : g15 < V.heap.size := F15.lt
          replace F15 := F15.alloc (.cells (#[.int .u64 0, .int .u64 0]) 24)
          have L19 := GB.size
          replace GB := GB.alloc GB.size (.cells (#[.int .u64 0, .int .u64 0]) 24)
          refine hK.out _ _ F15 (fun hS => ?_)
          clear hK K
          generalize V.alloc (.cells (#[.int .u64 0, .int .u64 0]) 24) = U44 at F19 FA F15 GB hS ⊢
          generalize V.heap.size = g19 at F19 l19A l19Q L19 ⊢
          refine wpAnyH_ready (rs := [3, 8]) (by kernel_rfl) (by simp) ?_
          refine AllReadyH.cons rfl (fun K hK => ?_) (AllReadyH.cons rfl (fun K hK => ?_) (AllReadyH.nil))
          · skip
            go_simp
            refine (HLO.out _).mono ?_
            rintro e w45 ⟨rfl, h45⟩
            replace FA := FA.below h45 FA.lt
            replace F15 := F15.below h45 F15.lt
            replace F19 := F19.below h45 F19.lt
            replace GB := GB.trans (h45.mono GB.size)
            clear h45
            refine hK.out _ _ F15 (fun hS => ?_)
            clear hK K
            refine wpAnyH_ready (rs := [7, 8]) (by kernel_rfl) (by simp) ?_
            refine AllReadyH.cons rfl (fun K hK => ?_) (AllReadyH.cons rfl (fun K hK => ?_) (AllReadyH.nil))
            · skip
              go_simp
              refine (HHI.out _).mono ?_
              rintro e w46 ⟨rfl, h46⟩
              replace FA := FA.below h46 FA.lt
              replace F15 := F15.below h46 F15.lt
              replace F19 := F19.below h46 F19.lt
              replace GB := GB.trans (h46.mono GB.size)
              clear h46
              refine hK.out _ _ F15 (fun hS => ?_)
              clear hK K
              refine wpAnyH_ready (rs := [8]) (by kernel_rfl) (by simp) ?_
              refine AllReadyH.cons rfl (fun K hK => ?_) (AllReadyH.nil)
              go_simp
              have F18 := Blk.new w46 24 (#[.int .u64 0, .int .u64 0])
              have l18A : w.heap.size < w46.heap.size := FA.lt
              replace FA := FA.alloc (.cells (#[.int .u64 0, .int .u64 0]) 24)
              have l18Q : g15 < w46.heap.size := F15.lt
              replace F15 := F15.alloc (.cells (#[.int .u64 0, .int .u64 0]) 24)
              have l1819 : g19 < w46.heap.size := F19.lt
              replace F19 := F19.alloc (.cells (#[.int .u64 0, .int .u64 0]) 24)
              have L18 := GB.size
              replace GB := GB.alloc GB.size (.cells (#[.int .u64 0, .int .u64 0]) 24)
              refine hK.out _ _ F15 (fun hS => ?_)
              clear hK K
              generalize w46.alloc (.cells (#[.int .u64 0, .int .u64 0]) 24) = U47 at F18 FA F15 F19 GB hS ⊢
              generalize w46.heap.size = g18 at F18 l18A l18Q l1819 L18 ⊢
              refine wpAnyH_ready (rs := [10]) (by kernel_rfl) (by simp) ?_
              refine AllReadyH.cons rfl (fun K hK => ?_) (AllReadyH.nil)
              have O48 := F18
              replace FA := FA.other (g' := g18) (cs' := #[.int .u64 (lh : Int), .int .u64 (ll : Int)]) (by omega)
              replace F15 := F15.other (g' := g18) (cs' := #[.int .u64 (lh : Int), .int .u64 (ll : Int)]) (by omega)
              replace F19 := F19.other (g' := g18) (cs' := #[.int .u64 (lh : Int), .int .u64 (ll : Int)]) (by omega)
              replace F18 := F18.row (cs' := #[.int .u64 (lh : Int), .int .u64 (ll : Int)])
              replace GB := below_row (g' := g18) (cs' := #[.int .u64 (lh : Int), .int .u64 (ll : Int)]) GB (by omega)
              refine keep_row rfl 24 (.tmp 18) (.tmp 88) rfl _ _ rfl rfl _ _ O48 (by kernel_rfl) rfl (by simp [Value.oneCell']) (hK.out _ _ F15 (fun hS => ?_))
              clear hK K O48
              generalize U47.setRow (g18) (#[.int .u64 (lh : Int), .int .u64 (ll : Int)]) = U48 at FA F15 F19 F18 GB hS ⊢
              refine wpAnyH_ready (rs := [11]) (by kernel_rfl) (by simp) ?_
              refine AllReadyH.cons rfl (fun K hK => ?_) (AllReadyH.nil)
              have O49 := F19
              replace FA := FA.other (g' := g19) (cs' := #[.int .u64 0, .int .u64 (hl : Int)]) (by omega)
              replace F15 := F15.other (g' := g19) (cs' := #[.int .u64 0, .int .u64 (hl : Int)]) (by omega)
              replace F18 := F18.other (g' := g19) (cs' := #[.int .u64 0, .int .u64 (hl : Int)]) (by omega)
              replace F19 := F19.row (cs' := #[.int .u64 0, .int .u64 (hl : Int)])
              replace GB := below_row (g' := g19) (cs' := #[.int .u64 0, .int .u64 (hl : Int)]) GB (by omega)
              refine keep_row rfl 24 (.tmp 19) (.tmp 92) rfl _ _ rfl rfl _ _ O49 (by kernel_rfl) rfl (by simp [Value.oneCell']) (hK.out _ _ F15 (fun hS => ?_))
              clear hK K O49
              generalize U48.setRow (g19) (#[.int .u64 0, .int .u64 (hl : Int)]) = U49 at FA F15 F19 F18 GB hS ⊢
              refine wpAnyH_done (by kernel_rfl) ?_ _
              go_wp2_with fail
              go_meet
              exact ⟨g18, g19, rfl, rfl, F18, F19, FA, GB⟩
            · skip
              go_simp
              have F18 := Blk.new w45 24 (#[.int .u64 0, .int .u64 0])
              have l18A : w.heap.size < w45.heap.size := FA.lt
              replace FA := FA.alloc (.cells (#[.int .u64 0, .int .u64 0]) 24)
              have l18Q : g15 < w45.heap.size := F15.lt
              replace F15 := F15.alloc (.cells (#[.int .u64 0, .int .u64 0]) 24)
              have l1819 : g19 < w45.heap.size := F19.lt
              replace F19 := F19.alloc (.cells (#[.int .u64 0, .int .u64 0]) 24)
              have L18 := GB.size
              replace GB := GB.alloc GB.size (.cells (#[.int .u64 0, .int .u64 0]) 24)
              refine hK.out _ _ F15 (fun hS => ?_)
              clear hK K
              generalize w45.alloc (.cells (#[.int .u64 0, .int .u64 0]) 24) = U50 at F18 FA F15 F19 GB hS ⊢
              generalize w45.heap.size = g18 at F18 l18A l18Q l1819 L18 ⊢
              refine wpAnyH_ready (rs := [7]) (by kernel_rfl) (by simp) ?_
              refine AllReadyH.cons rfl (fun K hK => ?_) (AllReadyH.nil)
              go_simp
              refine (HHI.out _).mono ?_
              rintro e w51 ⟨rfl, h51⟩
              replace FA := FA.below h51 FA.lt
              replace F15 := F15.below h51 F15.lt
              replace F19 := F19.below h51 F19.lt
              replace F18 := F18.below h51 F18.lt
              replace GB := GB.trans (h51.mono GB.size)
              clear h51
              refine hK.out _ _ F15 (fun hS => ?_)
              clear hK K
              refine wpAnyH_ready (rs := [10]) (by kernel_rfl) (by simp) ?_
              refine AllReadyH.cons rfl (fun K hK => ?_) (AllReadyH.nil)
              have O52 := F18
              replace FA := FA.other (g' := g18) (cs' := #[.int .u64 (lh : Int), .int .u64 (ll : Int)]) (by omega)
              replace F15 := F15.other (g' := g18) (cs' := #[.int .u64 (lh : Int), .int .u64 (ll : Int)]) (by omega)
              replace F19 := F19.other (g' := g18) (cs' := #[.int .u64 (lh : Int), .int .u64 (ll : Int)]) (by omega)
              replace F18 := F18.row (cs' := #[.int .u64 (lh : Int), .int .u64 (ll : Int)])
              replace GB := below_row (g' := g18) (cs' := #[.int .u64 (lh : Int), .int .u64 (ll : Int)]) GB (by omega)
              refine keep_row rfl 24 (.tmp 18) (.tmp 88) rfl _ _ rfl rfl _ _ O52 (by kernel_rfl) rfl (by simp [Value.oneCell']) (hK.out _ _ F15 (fun hS => ?_))
              clear hK K O52
              generalize w51.setRow (g18) (#[.int .u64 (lh : Int), .int .u64 (ll : Int)]) = U52 at FA F15 F19 F18 GB hS ⊢
              refine wpAnyH_ready (rs := [11]) (by kernel_rfl) (by simp) ?_
              refine AllReadyH.cons rfl (fun K hK => ?_) (AllReadyH.nil)
              have O53 := F19
              replace FA := FA.other (g' := g19) (cs' := #[.int .u64 0, .int .u64 (hl : Int)]) (by omega)
              replace F15 := F15.other (g' := g19) (cs' := #[.int .u64 0, .int .u64 (hl : Int)]) (by omega)
              replace F18 := F18.other (g' := g19) (cs' := #[.int .u64 0, .int .u64 (hl : Int)]) (by omega)
              replace F19 := F19.row (cs' := #[.int .u64 0, .int .u64 (hl : Int)])
              replace GB := below_row (g' := g19) (cs' := #[.int .u64 0, .int .u64 (hl : Int)]) GB (by omega)
              refine keep_row rfl 24 (.tmp 19) (.tmp 92) rfl _ _ rfl rfl _ _ O53 (by kernel_rfl) rfl (by simp [Value.oneCell']) (hK.out _ _ F15 (fun hS => ?_))
              clear hK K O53
              generalize U52.setRow (g19) (#[.int .u64 0, .int .u64 (hl : Int)]) = U53 at FA F15 F19 F18 GB hS ⊢
              refine wpAnyH_done (by kernel_rfl) ?_ _
              go_wp2_with fail
              go_meet
              exact ⟨g18, g19, rfl, rfl, F18, F19, FA, GB⟩
          · skip
            go_simp
            have F18 := Blk.new U44 24 (#[.int .u64 0, .int .u64 0])
            have l18A : w.heap.size < U44.heap.size := FA.lt
            replace FA := FA.alloc (.cells (#[.int .u64 0, .int .u64 0]) 24)
            have l18Q : g15 < U44.heap.size := F15.lt
            replace F15 := F15.alloc (.cells (#[.int .u64 0, .int .u64 0]) 24)
            have l1819 : g19 < U44.heap.size := F19.lt
            replace F19 := F19.alloc (.cells (#[.int .u64 0, .int .u64 0]) 24)
            have L18 := GB.size
            replace GB := GB.alloc GB.size (.cells (#[.int .u64 0, .int .u64 0]) 24)
            refine hK.out _ _ F15 (fun hS => ?_)
            clear hK K
            generalize U44.alloc (.cells (#[.int .u64 0, .int .u64 0]) 24) = U54 at F18 FA F15 F19 GB hS ⊢
            generalize U44.heap.size = g18 at F18 l18A l18Q l1819 L18 ⊢
            refine wpAnyH_ready (rs := [3]) (by kernel_rfl) (by simp) ?_
            refine AllReadyH.cons rfl (fun K hK => ?_) (AllReadyH.nil)
            go_simp
            refine (HLO.out _).mono ?_
            rintro e w55 ⟨rfl, h55⟩
            replace FA := FA.below h55 FA.lt
            replace F15 := F15.below h55 F15.lt
            replace F19 := F19.below h55 F19.lt
            replace F18 := F18.below h55 F18.lt
            replace GB := GB.trans (h55.mono GB.size)
            clear h55
            refine hK.out _ _ F15 (fun hS => ?_)
            clear hK K
            refine wpAnyH_ready (rs := [7]) (by kernel_rfl) (by simp) ?_
            refine AllReadyH.cons rfl (fun K hK => ?_) (AllReadyH.nil)
            go_simp
            refine (HHI.out _).mono ?_
            rintro e w56 ⟨rfl, h56⟩
            replace FA := FA.below h56 FA.lt
            replace F15 := F15.below h56 F15.lt
            replace F19 := F19.below h56 F19.lt
            replace F18 := F18.below h56 F18.lt
            replace GB := GB.trans (h56.mono GB.size)
            clear h56
            refine hK.out _ _ F15 (fun hS => ?_)
            clear hK K
            refine wpAnyH_ready (rs := [10]) (by kernel_rfl) (by simp) ?_
            refine AllReadyH.cons rfl (fun K hK => ?_) (AllReadyH.nil)
            have O57 := F18
            replace FA := FA.other (g' := g18) (cs' := #[.int .u64 (lh : Int), .int .u64 (ll : Int)]) (by omega)
            replace F15 := F15.other (g' := g18) (cs' := #[.int .u64 (lh : Int), .int .u64 (ll : Int)]) (by omega)
            replace F19 := F19.other (g' := g18) (cs' := #[.int .u64 (lh : Int), .int .u64 (ll : Int)]) (by omega)
            replace F18 := F18.row (cs' := #[.int .u64 (lh : Int), .int .u64 (ll : Int)])
            replace GB := below_row (g' := g18) (cs' := #[.int .u64 (lh : Int), .int .u64 (ll : Int)]) GB (by omega)
            refine keep_row rfl 24 (.tmp 18) (.tmp 88) rfl _ _ rfl rfl _ _ O57 (by kernel_rfl) rfl (by simp [Value.oneCell']) (hK.out _ _ F15 (fun hS => ?_))
            clear hK K O57
            generalize w56.setRow (g18) (#[.int .u64 (lh : Int), .int .u64 (ll : Int)]) = U57 at FA F15 F19 F18 GB hS ⊢
            refine wpAnyH_ready (rs := [11]) (by kernel_rfl) (by simp) ?_
            refine AllReadyH.cons rfl (fun K hK => ?_) (AllReadyH.nil)
            have O58 := F19
            replace FA := FA.other (g' := g19) (cs' := #[.int .u64 0, .int .u64 (hl : Int)]) (by omega)
            replace F15 := F15.other (g' := g19) (cs' := #[.int .u64 0, .int .u64 (hl : Int)]) (by omega)
            replace F18 := F18.other (g' := g19) (cs' := #[.int .u64 0, .int .u64 (hl : Int)]) (by omega)
            replace F19 := F19.row (cs' := #[.int .u64 0, .int .u64 (hl : Int)])
            replace GB := below_row (g' := g19) (cs' := #[.int .u64 0, .int .u64 (hl : Int)]) GB (by omega)
            refine keep_row rfl 24 (.tmp 19) (.tmp 92) rfl _ _ rfl rfl _ _ O58 (by kernel_rfl) rfl (by simp [Value.oneCell']) (hK.out _ _ F15 (fun hS => ?_))
            clear hK K O58
            generalize U57.setRow (g19) (#[.int .u64 0, .int .u64 (hl : Int)]) = U58 at FA F15 F19 F18 GB hS ⊢
            refine wpAnyH_done (by kernel_rfl) ?_ _
            go_wp2_with fail
            go_meet
            exact ⟨g18, g19, rfl, rfl, F18, F19, FA, GB⟩
      case rest =>
        clear FA F15 GB HDV HLO HHI
        obtain ⟨g18, g19, rfl, rfl, F18, F19, FA, GB⟩ := hcut
        have hrd := HRD.out
        have hrb : decide (d ≤ r) = false := decide_eq_false (by omega)
        have hrn : ¬ d ≤ r := by omega
        clear hrd
        obtain ⟨p0, p1⟩ := F18.two
        obtain ⟨q0, q1⟩ := F19.two
        go_upto_region 18 with fail
        go_wp2_with fail
        refine (HX.out _).mono ?_
        rintro e w6 ⟨rfl, h6⟩
        clear p0 p1 q0 q1 F18 F19
        replace FA := FA.below h6 FA.lt
        replace GB := GB.trans (h6.mono GB.size)
        clear h6
        have lA := FA.lt
        go_upto_region 19 with fail
        have F20 := Blk.new w6 24 #[.int .u64 (xh : Int), .int .u64 (xl : Int)]
        replace FA := FA.alloc (.cells #[.int .u64 (xh : Int), .int .u64 (xl : Int)] 24)
        replace GB := GB.alloc GB.size (.cells #[.int .u64 (xh : Int), .int .u64 (xl : Int)] 24)
        generalize w6.alloc (.cells #[.int .u64 (xh : Int), .int .u64 (xl : Int)] 24) = V6 at F20 FA GB ⊢
        generalize w6.heap.size = g20 at F20 lA ⊢
        go_cut [21, 22] (fun s21 s22 wx => ∃ g21 : Nat, s21 = .pointer (some ⟨g21, 0, none⟩) ∧ s22 = .int .i64 0 ∧ Blk wx g21 24 #[.int .u64 (ah : Int), .int .u64 (al : Int)] ∧ Blk wx w.heap.size 24 #[.int .u64 (ah : Int), .int .u64 (al : Int)] ∧ Below w.heap.size w wx)
        case first =>
          replace FA : Blk V6.drew _ _ _ := FA
          replace F20 : Blk V6.drew _ _ _ := F20
          replace GB := GB.drew
          refine wp_region_held_drew (S := fun W => Blk W g20 24 #[.int .u64 (xh : Int), .int .u64 (xl : Int)]) (by kernel_rfl) F20 (fun hS => ?_)
          generalize V6.drew = V at FA F20 GB hS ⊢
          refine wpAnyH_take (i := 0) (v := .agg (#[.int .u64 (xh : Int), .int .u64 (xl : Int)])) rfl (by kernel_rfl) (by kernel_rfl) (by kernel_rfl) (fun _ _ _ h => h) (yields_row (by rfl) 24 (.tmp 20) rfl (g20) rfl _ _ _ (fun _ h => h) Try.underlying24 rfl (by kernel_rfl)) hS ?_
          refine wpAnyH_take (i := 1) (v := .int .u64 (r : Int)) rfl (by kernel_rfl) (by kernel_rfl) (by kernel_rfl) (fun _ _ _ h => h) (Or.inl ⟨by rfl, fun u hSw => (by go_simp)⟩) hS ?_
          refine wpAnyH_ready (rs := [2, 7]) (by kernel_rfl) (by simp) ?_
          refine AllReadyH.cons rfl (fun K hK => ?_) (AllReadyH.cons rfl (fun K hK => ?_) (AllReadyH.nil))
          · skip
            go_simp
            refine (HOF.out _).mono ?_
            rintro e w1 ⟨rfl, h1⟩
            replace FA := FA.below h1 FA.lt
            replace F20 := F20.below h1 F20.lt
            replace GB := GB.trans (h1.mono GB.size)
            clear h1
            refine hK.out _ _ F20 (fun hS => ?_)
            clear hK K
            refine wpAnyH_ready (rs := [3, 7]) (by kernel_rfl) (by simp) ?_
            refine AllReadyH.cons rfl (fun K hK => ?_) (AllReadyH.cons rfl (fun K hK => ?_) (AllReadyH.nil))
            · skip
              go_simp
              refine (HY.out _).mono ?_
              rintro e w2 ⟨rfl, h2⟩
              replace FA := FA.below h2 FA.lt
              replace F20 := F20.below h2 F20.lt
              replace GB := GB.trans (h2.mono GB.size)
              clear h2
              refine hK.out _ _ F20 (fun hS => ?_)
              clear hK K
              refine wpAnyH_take (i := 4) (v := .tuple #[.agg #[.int .u64 (ah : Int), .int .u64 (al : Int)], .int .i64 0]) rfl (by kernel_rfl) (by kernel_rfl) (by kernel_rfl) (fun _ _ _ h => h) (Or.inl ⟨by rfl, fun u hSw => (by go_simp)⟩) hS ?_
              refine wpAnyH_take (i := 5) (v := .agg #[.int .u64 (ah : Int), .int .u64 (al : Int)]) rfl (by kernel_rfl) (by kernel_rfl) (by kernel_rfl) (fun _ _ _ h => h) (Or.inl ⟨by rfl, fun u hSw => (by go_simp)⟩) hS ?_
              refine wpAnyH_take (i := 6) (v := .int .i64 0) rfl (by kernel_rfl) (by kernel_rfl) (by kernel_rfl) (fun _ _ _ h => h) (Or.inl ⟨by rfl, fun u hSw => (by go_simp)⟩) hS ?_
              refine wpAnyH_ready (rs := [7]) (by kernel_rfl) (by simp) ?_
              refine AllReadyH.cons rfl (fun K hK => ?_) (AllReadyH.nil)
              go_simp
              have F21 := Blk.new w2 24 (#[.int .u64 0, .int .u64 0])
              have l21A : w.heap.size < w2.heap.size := FA.lt
              replace FA := FA.alloc (.cells (#[.int .u64 0, .int .u64 0]) 24)
              have l21X : g20 < w2.heap.size := F20.lt
              replace F20 := F20.alloc (.cells (#[.int .u64 0, .int .u64 0]) 24)
              have L21 := GB.size
              replace GB := GB.alloc GB.size (.cells (#[.int .u64 0, .int .u64 0]) 24)
              refine hK.out _ _ F20 (fun hS => ?_)
              clear hK K
              generalize w2.alloc (.cells (#[.int .u64 0, .int .u64 0]) 24) = U3 at F21 FA F20 GB hS ⊢
              generalize w2.heap.size = g21 at F21 l21A l21X L21 ⊢
              refine wpAnyH_ready (rs := [8]) (by kernel_rfl) (by simp) ?_
              refine AllReadyH.cons rfl (fun K hK => ?_) (AllReadyH.nil)
              have O4 := F21
              replace FA := FA.other (g' := g21) (cs' := #[.int .u64 (ah : Int), .int .u64 (al : Int)]) (by omega)
              replace F20 := F20.other (g' := g21) (cs' := #[.int .u64 (ah : Int), .int .u64 (al : Int)]) (by omega)
              replace F21 := F21.row (cs' := #[.int .u64 (ah : Int), .int .u64 (al : Int)])
              replace GB := below_row (g' := g21) (cs' := #[.int .u64 (ah : Int), .int .u64 (al : Int)]) GB (by omega)
              refine keep_row rfl 24 (.tmp 21) (.tmp 114) rfl _ _ rfl rfl _ _ O4 (by kernel_rfl) rfl (by simp [Value.oneCell']) (hK.out _ _ F20 (fun hS => ?_))
              clear hK K O4
              generalize U3.setRow (g21) (#[.int .u64 (ah : Int), .int .u64 (al : Int)]) = U4 at FA F20 F21 GB hS ⊢
              refine wpAnyH_ready (rs := [9]) (by kernel_rfl) (by simp) ?_
              refine AllReadyH.cons rfl (fun K hK => ?_) (AllReadyH.nil)
              go_simp
              refine hK.out _ _ F20 (fun hS => ?_)
              clear hK K
              refine wpAnyH_done (by kernel_rfl) ?_ _
              go_wp2_with fail
              go_meet
              exact ⟨g21, rfl, rfl, F21, FA, GB⟩
            · skip
              go_simp
              have F21 := Blk.new w1 24 (#[.int .u64 0, .int .u64 0])
              have l21A : w.heap.size < w1.heap.size := FA.lt
              replace FA := FA.alloc (.cells (#[.int .u64 0, .int .u64 0]) 24)
              have l21X : g20 < w1.heap.size := F20.lt
              replace F20 := F20.alloc (.cells (#[.int .u64 0, .int .u64 0]) 24)
              have L21 := GB.size
              replace GB := GB.alloc GB.size (.cells (#[.int .u64 0, .int .u64 0]) 24)
              refine hK.out _ _ F20 (fun hS => ?_)
              clear hK K
              generalize w1.alloc (.cells (#[.int .u64 0, .int .u64 0]) 24) = U6 at F21 FA F20 GB hS ⊢
              generalize w1.heap.size = g21 at F21 l21A l21X L21 ⊢
              refine wpAnyH_ready (rs := [3]) (by kernel_rfl) (by simp) ?_
              refine AllReadyH.cons rfl (fun K hK => ?_) (AllReadyH.nil)
              go_simp
              refine (HY.out _).mono ?_
              rintro e w7 ⟨rfl, h7⟩
              replace FA := FA.below h7 FA.lt
              replace F20 := F20.below h7 F20.lt
              replace F21 := F21.below h7 F21.lt
              replace GB := GB.trans (h7.mono GB.size)
              clear h7
              refine hK.out _ _ F20 (fun hS => ?_)
              clear hK K
              refine wpAnyH_take (i := 4) (v := .tuple #[.agg #[.int .u64 (ah : Int), .int .u64 (al : Int)], .int .i64 0]) rfl (by kernel_rfl) (by kernel_rfl) (by kernel_rfl) (fun _ _ _ h => h) (Or.inl ⟨by rfl, fun u hSw => (by go_simp)⟩) hS ?_
              refine wpAnyH_take (i := 5) (v := .agg #[.int .u64 (ah : Int), .int .u64 (al : Int)]) rfl (by kernel_rfl) (by kernel_rfl) (by kernel_rfl) (fun _ _ _ h => h) (Or.inl ⟨by rfl, fun u hSw => (by go_simp)⟩) hS ?_
              refine wpAnyH_take (i := 6) (v := .int .i64 0) rfl (by kernel_rfl) (by kernel_rfl) (by kernel_rfl) (fun _ _ _ h => h) (Or.inl ⟨by rfl, fun u hSw => (by go_simp)⟩) hS ?_
              refine wpAnyH_ready (rs := [8]) (by kernel_rfl) (by simp) ?_
              refine AllReadyH.cons rfl (fun K hK => ?_) (AllReadyH.nil)
              have O8 := F21
              replace FA := FA.other (g' := g21) (cs' := #[.int .u64 (ah : Int), .int .u64 (al : Int)]) (by omega)
              replace F20 := F20.other (g' := g21) (cs' := #[.int .u64 (ah : Int), .int .u64 (al : Int)]) (by omega)
              replace F21 := F21.row (cs' := #[.int .u64 (ah : Int), .int .u64 (al : Int)])
              replace GB := below_row (g' := g21) (cs' := #[.int .u64 (ah : Int), .int .u64 (al : Int)]) GB (by omega)
              refine keep_row rfl 24 (.tmp 21) (.tmp 114) rfl _ _ rfl rfl _ _ O8 (by kernel_rfl) rfl (by simp [Value.oneCell']) (hK.out _ _ F20 (fun hS => ?_))
              clear hK K O8
              generalize w7.setRow (g21) (#[.int .u64 (ah : Int), .int .u64 (al : Int)]) = U8 at FA F20 F21 GB hS ⊢
              refine wpAnyH_ready (rs := [9]) (by kernel_rfl) (by simp) ?_
              refine AllReadyH.cons rfl (fun K hK => ?_) (AllReadyH.nil)
              go_simp
              refine hK.out _ _ F20 (fun hS => ?_)
              clear hK K
              refine wpAnyH_done (by kernel_rfl) ?_ _
              go_wp2_with fail
              go_meet
              exact ⟨g21, rfl, rfl, F21, FA, GB⟩
          · skip
            go_simp
            have F21 := Blk.new V 24 (#[.int .u64 0, .int .u64 0])
            have l21A : w.heap.size < V.heap.size := FA.lt
            replace FA := FA.alloc (.cells (#[.int .u64 0, .int .u64 0]) 24)
            have l21X : g20 < V.heap.size := F20.lt
            replace F20 := F20.alloc (.cells (#[.int .u64 0, .int .u64 0]) 24)
            have L21 := GB.size
            replace GB := GB.alloc GB.size (.cells (#[.int .u64 0, .int .u64 0]) 24)
            refine hK.out _ _ F20 (fun hS => ?_)
            clear hK K
            generalize V.alloc (.cells (#[.int .u64 0, .int .u64 0]) 24) = U10 at F21 FA F20 GB hS ⊢
            generalize V.heap.size = g21 at F21 l21A l21X L21 ⊢
            refine wpAnyH_ready (rs := [2]) (by kernel_rfl) (by simp) ?_
            refine AllReadyH.cons rfl (fun K hK => ?_) (AllReadyH.nil)
            go_simp
            refine (HOF.out _).mono ?_
            rintro e w11 ⟨rfl, h11⟩
            replace FA := FA.below h11 FA.lt
            replace F20 := F20.below h11 F20.lt
            replace F21 := F21.below h11 F21.lt
            replace GB := GB.trans (h11.mono GB.size)
            clear h11
            refine hK.out _ _ F20 (fun hS => ?_)
            clear hK K
            refine wpAnyH_ready (rs := [3]) (by kernel_rfl) (by simp) ?_
            refine AllReadyH.cons rfl (fun K hK => ?_) (AllReadyH.nil)
            go_simp
            refine (HY.out _).mono ?_
            rintro e w12 ⟨rfl, h12⟩
            replace FA := FA.below h12 FA.lt
            replace F20 := F20.below h12 F20.lt
            replace F21 := F21.below h12 F21.lt
            replace GB := GB.trans (h12.mono GB.size)
            clear h12
            refine hK.out _ _ F20 (fun hS => ?_)
            clear hK K
            refine wpAnyH_take (i := 4) (v := .tuple #[.agg #[.int .u64 (ah : Int), .int .u64 (al : Int)], .int .i64 0]) rfl (by kernel_rfl) (by kernel_rfl) (by kernel_rfl) (fun _ _ _ h => h) (Or.inl ⟨by rfl, fun u hSw => (by go_simp)⟩) hS ?_
            refine wpAnyH_take (i := 5) (v := .agg #[.int .u64 (ah : Int), .int .u64 (al : Int)]) rfl (by kernel_rfl) (by kernel_rfl) (by kernel_rfl) (fun _ _ _ h => h) (Or.inl ⟨by rfl, fun u hSw => (by go_simp)⟩) hS ?_
            refine wpAnyH_take (i := 6) (v := .int .i64 0) rfl (by kernel_rfl) (by kernel_rfl) (by kernel_rfl) (fun _ _ _ h => h) (Or.inl ⟨by rfl, fun u hSw => (by go_simp)⟩) hS ?_
            refine wpAnyH_ready (rs := [8]) (by kernel_rfl) (by simp) ?_
            refine AllReadyH.cons rfl (fun K hK => ?_) (AllReadyH.nil)
            have O13 := F21
            replace FA := FA.other (g' := g21) (cs' := #[.int .u64 (ah : Int), .int .u64 (al : Int)]) (by omega)
            replace F20 := F20.other (g' := g21) (cs' := #[.int .u64 (ah : Int), .int .u64 (al : Int)]) (by omega)
            replace F21 := F21.row (cs' := #[.int .u64 (ah : Int), .int .u64 (al : Int)])
            replace GB := below_row (g' := g21) (cs' := #[.int .u64 (ah : Int), .int .u64 (al : Int)]) GB (by omega)
            refine keep_row rfl 24 (.tmp 21) (.tmp 114) rfl _ _ rfl rfl _ _ O13 (by kernel_rfl) rfl (by simp [Value.oneCell']) (hK.out _ _ F20 (fun hS => ?_))
            clear hK K O13
            generalize w12.setRow (g21) (#[.int .u64 (ah : Int), .int .u64 (al : Int)]) = U13 at FA F20 F21 GB hS ⊢
            refine wpAnyH_ready (rs := [9]) (by kernel_rfl) (by simp) ?_
            refine AllReadyH.cons rfl (fun K hK => ?_) (AllReadyH.nil)
            go_simp
            refine hK.out _ _ F20 (fun hS => ?_)
            clear hK K
            refine wpAnyH_done (by kernel_rfl) ?_ _
            go_wp2_with fail
            go_meet
            exact ⟨g21, rfl, rfl, F21, FA, GB⟩
        case rest =>
          clear FA F20 GB lA
          obtain ⟨g21, rfl, rfl, F21, FA, GB⟩ := hcut
          obtain ⟨p0, p1⟩ := FA.two
          obtain ⟨q0, q1⟩ := F21.two
          go_wp2
          go_ret
          exact ⟨rfl, GB⟩

end Go.Proofs.Yteglkhljenjplaa
