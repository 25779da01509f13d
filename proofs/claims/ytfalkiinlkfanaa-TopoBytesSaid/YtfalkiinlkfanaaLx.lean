/-
  The contract of the landed topo: Encode. No statement is proved here.
-/
import Derived.Test.YtfalkiinlkfanaaLa
namespace Go.Proofs.Ytfalkiinlkfanaa
open Go.RowKit

set_option maxRecDepth 100000 in
set_option maxHeartbeats 4000000 in
theorem tencode_ok : TEncodeOk := by
  intro A n c l w hAt
  obtain ⟨i0, hi0, hz0, hz1, hz2⟩ := info_parts byte_info
  have hl := hAt.len
  obtain ⟨K, B⟩ : Blk (w.alloc (.cells #[.slice A n c] 27)) w.heap.size 27 #[.slice A n c] ∧ Below w.heap.size w (w.alloc (.cells #[.slice A n c] 27)) := ⟨Blk.new _ _ _, (Below.refl _ _).alloc (Nat.le_refl _) _⟩
  have HB := Lib.hid (And.intro K (And.intro B (hAt.past B (Nat.le_refl _))))
  have hck := tcheck_ok A n c l _ (hAt.past B (Nat.le_refl _))
  clear K B
  cases hr : rightT l with
  | false =>
    rw [hr] at hck
    have HK := Lib.hid hck
    have hv : encR l = ([], 160) := by unfold encR; rw [hr]; rfl
    rw [hv]
    clear hck hr hv hl hAt hi0 hz0 hz1 hz2
    go_enter Try.func29, Try.ntmps29
    go_wp2_with fail
    refine HK.out.mono ?_
    rintro e w1 ⟨rfl, h1⟩
    have B1 := Lib.hid (HB.out.2.1.trans (h1.mono HB.out.2.1.size))
    clear h1
    go_wp2
    go_ret2
    exact ⟨none, 0, 0, rfl, rfl, Nat.le_refl _, Reads.none_, B1.out⟩
  | true =>
    rw [hr] at hck
    have HK := Lib.hid hck
    have hv : encR l = (bytesL l, 0) := by unfold encR; rw [hr]; rfl
    rw [hv]
    obtain ⟨r1, r2, r3⟩ := right_parts hr
    have n9 : n ≤ 8 := by omega
    have wn : IntKind.u8.wrap (n : Int) = (n : Int) := u8_in (by omega) (by omega)
    have HL := Lib.hid hl
    have HA := Lib.hid r1
    clear hck hr hv hl hAt r1 r2 r3
    go_enter Try.func29, Try.ntmps29
    go_wp2_with fail
    refine HK.out.mono ?_
    rintro e w1 ⟨rfl, h1⟩
    have K1 := HB.out.1.below h1 HB.out.1.lt
    have B1 := HB.out.2.1.trans (h1.mono HB.out.2.1.size)
    have A1 := HB.out.2.2.below h1
    have c0 := K1.cell 0
    have HR := Lib.hid A1.1
    have lt1 := K1.lt
    have c1 := (K1.alloc (.cells #[.int .u8 (n : Int)] 5)).cell 0
    have HO : Hid ((w1.alloc (.cells #[.int .u8 (n : Int)] 5)).ownsRow w1.heap.size 5 1 (.slice (some ⟨w1.heap.size, 0, none⟩) 1 1) 1 (bv [(n : Int)])) := Lib.hid (by
      have := own_built (w := w1) (base := w1.heap.size) (e := 5) #[.int .u8 (n : Int)] 1 (Nat.le_refl _) rfl (by simp [maxLen])
      simpa [bv] using this)
    have HB1 := Lib.hid B1
    clear h1 A1 B1 K1 HK
    go_wp2_with fail
    clear c0 c1
    go_loopw [5, 21] (fun v i wr => ∃ k m : Nat, k ≤ n ∧ i = .int .i64 (k : Int) ∧ Hid (m = 1 + 2 * k) ∧ Hid (wr.ownsRow w1.heap.size 5 1 v m (bv ((n : Int) :: (l.take k).flatMap sb))) ∧ Below w1.heap.size w1 wr) (fun _ i _ => n - (intOf i).toNat)
    case atStart => exact ⟨0, 1, by omega, rfl, Lib.hid rfl, Lib.hid HO.out, (Below.refl _ _).alloc (Nat.le_refl _) _⟩
    case round =>
      obtain ⟨k, m, hk, rfl, Hm, HO2, hB⟩ := hrel
      by_cases hlt : k < n
      · obtain ⟨⟨x, y⟩, hm⟩ := elem_at (l := l) (k := k) (by rw [HL.out]; exact hlt)
        obtain ⟨ad, rfl, hb, d0, d1⟩ := seat_at (HR.out.below hB) hm
        obtain ⟨s1, s2, s3, s4⟩ := seat_yes (right_seat HA.out hm)
        have HM := Lib.hid (bytes_step hm (n : Int))
        have wx : IntKind.u8.wrap x = x := u8_in (by omega) (by omega)
        have wy : IntKind.u8.wrap y = y := u8_in (by omega) (by omega)
        have hsz := hB.size
        have Hm20 : Hid (m ≤ 20) := Lib.hid (by rw [Hm.out]; omega)
        have m20 := Hm20.out
        clear hm s1 s2 s3 s4
        go_wp2_with (
          at_builtin
          refine wpList_append_own _ rfl (.tmp 25) (.tmp 32) 62 rfl w1.heap.size 5 i0 (.int .u8 0) 1 1 Try.underlying62 hi0 hz0 hz1 hz2 rfl (by decide) _ m _ rfl ((HO2.out.alloc _).alloc _) ⟨_, 0, none⟩ 2 2 [.int .u8 x, .int .u8 y] rfl rfl (by simpa using two_new (wr.alloc (.cells #[.int .i64 x, .int .i64 y] 37)) (.int .u8 x) (.int .u8 y) 5) (by simp [Value.oneCell']) (by simp only [maxLen]; omega) (by omega) (by simp <;> omega) ?_
          intro v2 w3 hown3 hg3 _)
        have hO3 : w3.ownsRow w1.heap.size 5 1 v2 (m + 2) (bv ((n : Int) :: (l.take (k + 1)).flatMap sb)) := by
          rw [HM.out, bv_append]
          exact hown3
        have hB2 := hB.alloc hsz (.cells #[.int .i64 x, .int .i64 y] 37)
        have hB3 := hB2.alloc hB2.size (.cells #[.int .u8 x, .int .u8 y] 5)
        have hB4 : Below w1.heap.size w1 w3 := hB3.grown hg3 hB3.size (fun g hg => (HO2.out.lt g hg).1)
        go_roundw
        case rel => exact ⟨k + 1, m + 2, by omega, by go_num, Lib.hid (by rw [Hm.out]; omega), Lib.hid hO3, hB4⟩
        case measure => simp [intOf]; omega
      · obtain rfl : n = k := by omega
        obtain ⟨A2, c2, rfl, hc2, hr⟩ := own_reads HO2.out
        have HF : Hid (Reads wr wr.heap.size 1 A2 m (bv (bytesL l))) := Lib.hid (by
          unfold bytesL
          rw [HL.out]
          rwa [show l.take n = l by rw [← HL.out]; exact List.take_length] at hr)
        have HC := Lib.hid hc2
        clear HO2 hr hc2
        go_wp2
        go_ret2
        exact ⟨A2, m, c2, rfl, by rw [length_bytesL, HL.out]; exact Hm.out, HC.out, HF.out, HB1.out.trans (hB.mono HB1.out.size)⟩

end Go.Proofs.Ytfalkiinlkfanaa
