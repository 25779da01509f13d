/-
  The walk of the law on quotients. No statement is proved here.
-/
import Derived.Test.YteglkhljenjplaaLm
namespace Go.Proofs.Yteglkhljenjplaa
open Go.RowKit

set_option maxHeartbeats 1000000 in
theorem divs_zero (ah al m : Nat) (w : World) :
    Calls Try.prog 4 #[.agg #[.int .u64 (ah : Int), .int .u64 (al : Int)], .int .u64 (m : Int), .int .u64 0] w (Ans (.bool true) w) := by
  have HD := Lib.hid (fun u => div_nought ah al u)
  have HS := Lib.hid (fun u => scale_nought ah al m u)
  have b0 := Blk.new w 24 #[.int .u64 (ah : Int), .int .u64 (al : Int)]
  have B0 := (Below.refl w.heap.size w).alloc (Nat.le_refl _) (.cells #[.int .u64 (ah : Int), .int .u64 (al : Int)] 24)
  have HB := Lib.hid (And.intro b0 B0)
  clear b0 B0
  go_enter Try.func4, Try.ntmps4
  go_wp2_with fail
  refine (wakes_any _).mono ?_
  rintro e w1 ⟨rfl, h1⟩
  have FA := HB.out.1.below h1 HB.out.1.lt
  have GB := HB.out.2.trans (h1.mono HB.out.2.size)
  clear HB h1
  obtain ⟨p0, p1⟩ := FA.two
  go_wp2_with fail
  refine (HD.out _).mono ?_
  rintro e w2 ⟨rfl, h2⟩
  clear p0 p1
  replace FA := FA.below h2 FA.lt
  replace GB := GB.trans (h2.mono GB.size)
  clear h2
  go_upto_region 4 with fail
  have F7 := Blk.new w2 24 #[.int .u64 0, .int .u64 0]
  replace FA := FA.alloc (.cells #[.int .u64 0, .int .u64 0] 24)
  replace GB := GB.alloc GB.size (.cells #[.int .u64 0, .int .u64 0] 24)
  generalize w2.alloc (.cells #[.int .u64 0, .int .u64 0] 24) = V2 at F7 FA GB ⊢
  generalize w2.heap.size = g7 at F7 ⊢
  obtain ⟨p0, p1⟩ := FA.two
  go_wp2_with fail
  refine (HS.out _).mono ?_
  rintro e w3 ⟨rfl, h3⟩
  clear p0 p1 FA
  replace F7 := F7.below h3 F7.lt
  replace GB := GB.trans (h3.mono GB.size)
  clear h3
  go_upto_region 5 with fail
  have F10 := Blk.new w3 24 #[.int .u64 0, .int .u64 0]
  replace F7 := F7.alloc (.cells #[.int .u64 0, .int .u64 0] 24)
  replace GB := GB.alloc GB.size (.cells #[.int .u64 0, .int .u64 0] 24)
  generalize w3.alloc (.cells #[.int .u64 0, .int .u64 0] 24) = V3 at F7 F10 GB ⊢
  generalize w3.heap.size = g10 at F10 ⊢
  obtain ⟨p0, p1⟩ := F7.two
  obtain ⟨q0, q1⟩ := F10.two
  go_wp2
  go_ret
  exact ⟨rfl, GB⟩

set_option maxHeartbeats 8000000 in
set_option maxRecDepth 100000 in
theorem divs_pos (ah al m d : Nat) (hdp : 0 < d) (hah : ah < 18446744073709551616) (hal : al < 18446744073709551616) (hm : m < 18446744073709551616) (hd : d < 18446744073709551616) (w : World) :
    Calls Try.prog 4 #[.agg #[.int .u64 (ah : Int), .int .u64 (al : Int)], .int .u64 (m : Int), .int .u64 (d : Int)] w (Ans (.bool true) w) := by
  obtain ⟨A, hA⟩ : ∃ A, ah * 18446744073709551616 + al = A := ⟨_, rfl⟩
  have hAb : A < 340282366920938463463374607431768211456 := by omega
  obtain ⟨Q, hQ⟩ : ∃ Q, A / d = Q := ⟨_, rfl⟩
  obtain ⟨r, hr⟩ : ∃ r, A % d = r := ⟨_, rfl⟩
  have hrd : r < d := by rw [← hr]; exact Nat.mod_lt _ hdp
  have hQb : Q ≤ A := by rw [← hQ]; exact Nat.div_le_self _ _
  obtain ⟨qh, hqh⟩ : ∃ q, Q / 18446744073709551616 = q := ⟨_, rfl⟩
  obtain ⟨ql, hql⟩ : ∃ q, Q % 18446744073709551616 = q := ⟨_, rfl⟩
  have HD := Lib.hid (fun u => div_any ah al d qh ql r hah hal hdp hd (by rw [hA, hQ]; omega) (by omega) (by rw [hA]; exact hr) u)
  obtain ⟨zh, zl, c, hZ⟩ := Num.some (scaleN A m d true)
  have HS := Lib.hid (fun u => scale_any ah al m d zh zl c hah hal hm hdp hd (by rw [hA]; exact hZ) u)
  have HO1 : Hid (∀ u, Calls Try.prog 10 #[.agg #[.int .u64 (ah : Int), .int .u64 (al : Int)]] u (Row (cellsOf A.testBit) u)) := Lib.hid (fun u => by
    have h := of_c ah al u hah hal
    rw [show ah * 2 ^ 64 + al = A from hA] at h
    exact h)
  have HO2 := Lib.hid (fun u => of_low d u hd)
  have HQ : Hid (∀ u, Calls Try.prog 23 #[.agg (cellsOf A.testBit), .agg (cellsOf d.testBit)] u (Ans (.tuple #[.agg (cellsOf Q.testBit), .agg (cellsOf r.testBit)]) u)) := Lib.hid (fun u => by
    have h := quotient_c A d u (by omega) hdp (by omega)
    rw [hQ, hr] at h
    exact h)
  have HN1 : Hid (∀ u, Calls Try.prog 11 #[.agg (cellsOf Q.testBit)] u (Ans (.tuple #[.agg #[.int .u64 (qh : Int), .int .u64 (ql : Int)], .bool true]) u)) := Lib.hid (fun u => by
    have h := number_c Q u (by omega)
    rw [show Q % 2 ^ 128 / 2 ^ 64 = qh by omega, show Q % 2 ^ 64 = ql by omega, show decide (Q < 2 ^ 128) = true from decide_eq_true (by omega)] at h
    exact h)
  have HN2 : Hid (∀ u, Calls Try.prog 11 #[.agg (cellsOf r.testBit)] u (Ans (.tuple #[.agg #[.int .u64 0, .int .u64 (r : Int)], .bool true]) u)) := Lib.hid (fun u => by
    have h := number_c r u (by omega)
    rw [show r % 2 ^ 128 / 2 ^ 64 = 0 by omega, show r % 2 ^ 64 = r by omega, show decide (r < 2 ^ 128) = true from decide_eq_true (by omega)] at h
    exact h)
  obtain ⟨S, hS⟩ : ∃ S, scaleN A m d true = S := ⟨_, rfl⟩
  obtain ⟨sh, hsh⟩ : ∃ q, S % 2 ^ 128 / 2 ^ 64 = q := ⟨_, rfl⟩
  obtain ⟨sl, hsl⟩ : ∃ q, S % 2 ^ 64 = q := ⟨_, rfl⟩
  obtain ⟨ok, hok⟩ : ∃ b, decide (S < 2 ^ 128) = b := ⟨_, rfl⟩
  have HSC : Hid (∀ u, Calls Try.prog 24 #[.agg #[.int .u64 (ah : Int), .int .u64 (al : Int)], .int .u64 (m : Int), .int .u64 (d : Int), .bool true] u (Ans (.tuple #[.agg #[.int .u64 (sh : Int), .int .u64 (sl : Int)], .bool ok]) u)) := Lib.hid (fun u => by
    have h := scaled_any ah al m d true u hah hal hm hdp hd
    rw [show ah * 2 ^ 64 + al = A from hA, show scaledN A m d true = S from hS, hsh, hsl, hok] at h
    exact h)
  have hcase : (c = 0 ∧ sh = zh ∧ sl = zl ∧ ok = true) ∨ (c = 131 ∧ zh = 0 ∧ zl = 0 ∧ ok = false) := by
    rw [hS] at hZ
    rcases hZ with ⟨h1, h2, h3, h4⟩ | ⟨h1, h2, h3, h4⟩
    · exact .inl ⟨h1, by omega, by omega, by rw [← hok]; exact decide_eq_true (by omega)⟩
    · exact .inr ⟨h1, h2, h3, by rw [← hok]; exact decide_eq_false (by omega)⟩
  have hdb : ((d : Int) == 0) = false := by simp; omega
  have HCASE := Lib.hid hcase
  have b0 := Blk.new w 24 #[.int .u64 (ah : Int), .int .u64 (al : Int)]
  have B0 := (Below.refl w.heap.size w).alloc (Nat.le_refl _) (.cells #[.int .u64 (ah : Int), .int .u64 (al : Int)] 24)
  have HB := Lib.hid (And.intro b0 B0)
  clear b0 B0 hA hAb hQ hr hrd hQb hqh hql hZ hS hsh hsl hok hcase hah hal hm hdp hd
  go_enter Try.func4, Try.ntmps4
  go_wp2_with fail
  refine (wakes_any _).mono ?_
  rintro e w1 ⟨rfl, h1⟩
  have FA := HB.out.1.below h1 HB.out.1.lt
  have GB := HB.out.2.trans (h1.mono HB.out.2.size)
  clear HB h1
  obtain ⟨p0, p1⟩ := FA.two
  go_wp2_with fail
  refine (HD.out _).mono ?_
  rintro e w2 ⟨rfl, h2⟩
  clear p0 p1
  replace FA := FA.below h2 FA.lt
  replace GB := GB.trans (h2.mono GB.size)
  clear h2
  go_upto_region 4 with fail
  have F7 := Blk.new w2 24 #[.int .u64 (qh : Int), .int .u64 (ql : Int)]
  have lF7FA := FA.lt
  replace FA := FA.alloc (.cells #[.int .u64 (qh : Int), .int .u64 (ql : Int)] 24)
  replace GB := GB.alloc GB.size (.cells #[.int .u64 (qh : Int), .int .u64 (ql : Int)] 24)
  generalize w2.alloc (.cells #[.int .u64 (qh : Int), .int .u64 (ql : Int)] 24) = V2 at F7 FA GB ⊢
  generalize w2.heap.size = g7 at F7 lF7FA ⊢
  obtain ⟨p0, p1⟩ := FA.two
  go_wp2_with fail
  refine (HS.out _).mono ?_
  rintro e w3 ⟨rfl, h3⟩
  clear p0 p1
  replace FA := FA.below h3 FA.lt
  replace F7 := F7.below h3 F7.lt
  replace GB := GB.trans (h3.mono GB.size)
  clear h3
  go_upto_region 7 with fail
  have F10 := Blk.new w3 24 #[.int .u64 (zh : Int), .int .u64 (zl : Int)]
  have lF10FA := FA.lt
  replace FA := FA.alloc (.cells #[.int .u64 (zh : Int), .int .u64 (zl : Int)] 24)
  have lF10F7 := F7.lt
  replace F7 := F7.alloc (.cells #[.int .u64 (zh : Int), .int .u64 (zl : Int)] 24)
  replace GB := GB.alloc GB.size (.cells #[.int .u64 (zh : Int), .int .u64 (zl : Int)] 24)
  generalize w3.alloc (.cells #[.int .u64 (zh : Int), .int .u64 (zl : Int)] 24) = V3 at F10 FA F7 GB ⊢
  generalize w3.heap.size = g10 at F10 lF10FA lF10F7 ⊢
  obtain ⟨p0, p1⟩ := FA.two
  go_wp2_with fail
  refine (HO1.out _).mono ?_
  rintro e w4 ⟨rfl, h4⟩
  clear p0 p1
  replace FA := FA.below h4 FA.lt
  replace F7 := F7.below h4 F7.lt
  replace F10 := F10.below h4 F10.lt
  replace GB := GB.trans (h4.mono GB.size)
  clear h4
  go_wp2_with fail
  refine (HO2.out _).mono ?_
  rintro e w5 ⟨rfl, h5⟩
  replace FA := FA.below h5 FA.lt
  replace F7 := F7.below h5 F7.lt
  replace F10 := F10.below h5 F10.lt
  replace GB := GB.trans (h5.mono GB.size)
  clear h5
  go_wp2_with fail
  refine (HQ.out _).mono ?_
  rintro e w6 ⟨rfl, h6⟩
  replace FA := FA.below h6 FA.lt
  replace F7 := F7.below h6 F7.lt
  replace F10 := F10.below h6 F10.lt
  replace GB := GB.trans (h6.mono GB.size)
  clear h6
  have hz := zero_bits
  obtain ⟨Y1, Y2, BY⟩ := blks2 w6 27 27 (cellsOf none_) (cellsOf none_)
  have hsz := GB.size
  have lA := FA.lt
  have l7 := F7.lt
  have l10 := F10.lt
  have E1 := Y2.other (g' := w6.heap.size) (cs' := cellsOf Q.testBit) (by omega)
  have F12 := (Y1.row (cs' := cellsOf Q.testBit)).other (g' := w6.heap.size + 1) (cs' := cellsOf r.testBit) (by omega)
  have F13 := E1.row (cs' := cellsOf r.testBit)
  replace FA := (((FA.alloc (.cells (cellsOf none_) 27)).alloc (.cells (cellsOf none_) 27)).other (g' := w6.heap.size) (cs' := cellsOf Q.testBit) (by omega)).other (g' := w6.heap.size + 1) (cs' := cellsOf r.testBit) (by omega)
  replace F7 := (((F7.alloc (.cells (cellsOf none_) 27)).alloc (.cells (cellsOf none_) 27)).other (g' := w6.heap.size) (cs' := cellsOf Q.testBit) (by omega)).other (g' := w6.heap.size + 1) (cs' := cellsOf r.testBit) (by omega)
  replace F10 := (((F10.alloc (.cells (cellsOf none_) 27)).alloc (.cells (cellsOf none_) 27)).other (g' := w6.heap.size) (cs' := cellsOf Q.testBit) (by omega)).other (g' := w6.heap.size + 1) (cs' := cellsOf r.testBit) (by omega)
  replace GB := below_row (g' := w6.heap.size + 1) (cs' := cellsOf r.testBit) (below_row (g' := w6.heap.size) (cs' := cellsOf Q.testBit) (GB.trans (BY.mono hsz)) hsz) (by omega)
  have HF := Lib.hid (And.intro FA (And.intro F7 (And.intro F10 (And.intro F12 (And.intro F13 GB)))))
  clear FA F7 F10 F12 F13 GB BY
  go_upto_region 8 with (first
    | (refine wpList_store_row rfl 27 (.tmp 12) (.tmp 65) rfl _ _ rfl rfl _ _ Y1 (size_bits _) (by rw [cellsOf_size, cellsOf_size]) (cellsOf_one _) ?_)
    | (refine wpList_store_row rfl 27 (.tmp 13) (.tmp 66) rfl _ _ rfl rfl _ _ E1 (size_bits _) (by rw [cellsOf_size, cellsOf_size]) (cellsOf_one _) ?_))
  obtain ⟨FA, F7, F10, F12, F13, GB⟩ := HF.out
  clear HF Y1 Y2 E1 hsz hz
  generalize (((w6.alloc (.cells (cellsOf none_) 27)).alloc (.cells (cellsOf none_) 27)).setRow w6.heap.size (cellsOf Q.testBit)).setRow (w6.heap.size + 1) (cellsOf r.testBit) = V4 at FA F7 F10 F12 F13 GB ⊢
  generalize w6.heap.size = g12 at F12 F13 lA l7 l10 ⊢
  go_wp2_with (refine wpList_load_row rfl 27 (.tmp 12) rfl _ rfl _ _ (0, 0) _ F12 Try.underlying27 rfl (size_bits _) ?_)
  refine (HN1.out _).mono ?_
  rintro e w7 ⟨rfl, h7⟩
  replace FA := FA.below h7 FA.lt
  replace F7 := F7.below h7 F7.lt
  replace F10 := F10.below h7 F10.lt
  replace F12 := F12.below h7 F12.lt
  replace F13 := F13.below h7 F13.lt
  replace GB := GB.trans (h7.mono GB.size)
  clear h7
  go_upto_region 9 with fail
  have F14 := Blk.new w7 24 #[.int .u64 (qh : Int), .int .u64 (ql : Int)]
  have lF14FA := FA.lt
  replace FA := FA.alloc (.cells #[.int .u64 (qh : Int), .int .u64 (ql : Int)] 24)
  have lF14F7 := F7.lt
  replace F7 := F7.alloc (.cells #[.int .u64 (qh : Int), .int .u64 (ql : Int)] 24)
  have lF14F10 := F10.lt
  replace F10 := F10.alloc (.cells #[.int .u64 (qh : Int), .int .u64 (ql : Int)] 24)
  have lF14F12 := F12.lt
  replace F12 := F12.alloc (.cells #[.int .u64 (qh : Int), .int .u64 (ql : Int)] 24)
  have lF14F13 := F13.lt
  replace F13 := F13.alloc (.cells #[.int .u64 (qh : Int), .int .u64 (ql : Int)] 24)
  replace GB := GB.alloc GB.size (.cells #[.int .u64 (qh : Int), .int .u64 (ql : Int)] 24)
  generalize w7.alloc (.cells #[.int .u64 (qh : Int), .int .u64 (ql : Int)] 24) = V5 at F14 FA F7 F10 F12 F13 GB ⊢
  generalize w7.heap.size = g14 at F14 lF14FA lF14F7 lF14F10 lF14F12 lF14F13 ⊢
  go_wp2_with (refine wpList_load_row rfl 27 (.tmp 13) rfl _ rfl _ _ (0, 0) _ F13 Try.underlying27 rfl (size_bits _) ?_)
  refine (HN2.out _).mono ?_
  rintro e w8 ⟨rfl, h8⟩
  replace FA := FA.below h8 FA.lt
  replace F7 := F7.below h8 F7.lt
  replace F10 := F10.below h8 F10.lt
  replace F12 := F12.below h8 F12.lt
  replace F13 := F13.below h8 F13.lt
  replace F14 := F14.below h8 F14.lt
  replace GB := GB.trans (h8.mono GB.size)
  clear h8
  go_upto_region 10 with fail
  have F16 := Blk.new w8 24 #[.int .u64 0, .int .u64 (r : Int)]
  have lF16FA := FA.lt
  replace FA := FA.alloc (.cells #[.int .u64 0, .int .u64 (r : Int)] 24)
  have lF16F7 := F7.lt
  replace F7 := F7.alloc (.cells #[.int .u64 0, .int .u64 (r : Int)] 24)
  have lF16F10 := F10.lt
  replace F10 := F10.alloc (.cells #[.int .u64 0, .int .u64 (r : Int)] 24)
  have lF16F12 := F12.lt
  replace F12 := F12.alloc (.cells #[.int .u64 0, .int .u64 (r : Int)] 24)
  have lF16F13 := F13.lt
  replace F13 := F13.alloc (.cells #[.int .u64 0, .int .u64 (r : Int)] 24)
  have lF16F14 := F14.lt
  replace F14 := F14.alloc (.cells #[.int .u64 0, .int .u64 (r : Int)] 24)
  replace GB := GB.alloc GB.size (.cells #[.int .u64 0, .int .u64 (r : Int)] 24)
  generalize w8.alloc (.cells #[.int .u64 0, .int .u64 (r : Int)] 24) = V6 at F16 FA F7 F10 F12 F13 F14 GB ⊢
  generalize w8.heap.size = g16 at F16 lF16FA lF16F7 lF16F10 lF16F12 lF16F13 lF16F14 ⊢
  obtain ⟨p0, p1⟩ := FA.two
  obtain ⟨q0, q1⟩ := F7.two
  obtain ⟨q2, q3⟩ := F14.two
  obtain ⟨q4, q5⟩ := F16.two
  go_wp2_with fail
  refine (HSC.out _).mono ?_
  rintro e w9 ⟨rfl, h9⟩
  clear p0 p1 q0 q1 q2 q3 q4 q5
  replace FA := FA.below h9 FA.lt
  replace F10 := F10.below h9 F10.lt
  replace GB := GB.trans (h9.mono GB.size)
  clear h9
  have hcase := HCASE.out
  clear HCASE
  rcases hcase with ⟨rfl, rfl, rfl, rfl⟩ | ⟨rfl, rfl, rfl, rfl⟩
  · skip
    go_upto_region 13 with fail
    have F18 := Blk.new w9 24 #[.int .u64 (sh : Int), .int .u64 (sl : Int)]
    have lF18FA := FA.lt
    replace FA := FA.alloc (.cells #[.int .u64 (sh : Int), .int .u64 (sl : Int)] 24)
    have lF18F10 := F10.lt
    replace F10 := F10.alloc (.cells #[.int .u64 (sh : Int), .int .u64 (sl : Int)] 24)
    replace GB := GB.alloc GB.size (.cells #[.int .u64 (sh : Int), .int .u64 (sl : Int)] 24)
    generalize w9.alloc (.cells #[.int .u64 (sh : Int), .int .u64 (sl : Int)] 24) = V7 at F18 FA F10 GB ⊢
    generalize w9.heap.size = g18 at F18 lF18FA lF18F10 ⊢
    obtain ⟨p0, p1⟩ := F10.two
    obtain ⟨q0, q1⟩ := F18.two
    go_wp2
    go_ret
    exact ⟨rfl, GB⟩
  · skip
    go_upto_region 13 with fail
    have F18 := Blk.new w9 24 #[.int .u64 (sh : Int), .int .u64 (sl : Int)]
    have lF18FA := FA.lt
    replace FA := FA.alloc (.cells #[.int .u64 (sh : Int), .int .u64 (sl : Int)] 24)
    have lF18F10 := F10.lt
    replace F10 := F10.alloc (.cells #[.int .u64 (sh : Int), .int .u64 (sl : Int)] 24)
    replace GB := GB.alloc GB.size (.cells #[.int .u64 (sh : Int), .int .u64 (sl : Int)] 24)
    generalize w9.alloc (.cells #[.int .u64 (sh : Int), .int .u64 (sl : Int)] 24) = V7 at F18 FA F10 GB ⊢
    generalize w9.heap.size = g18 at F18 lF18FA lF18F10 ⊢
    obtain ⟨p0, p1⟩ := F10.two
    obtain ⟨q0, q1⟩ := F18.two
    go_wp2
    go_ret
    exact ⟨rfl, GB⟩

theorem divs_walk (ah al m d : Nat) (hah : ah < 18446744073709551616) (hal : al < 18446744073709551616) (hm : m < 18446744073709551616) (hd : d < 18446744073709551616) (w : World) :
    Calls Try.prog 4 #[.agg #[.int .u64 (ah : Int), .int .u64 (al : Int)], .int .u64 (m : Int), .int .u64 (d : Int)] w (Ans (.bool true) w) := by
  rcases Nat.eq_zero_or_pos d with rfl | h
  · exact divs_zero ah al m w
  · exact divs_pos ah al m d h hah hal hm hd w

end Go.Proofs.Yteglkhljenjplaa
