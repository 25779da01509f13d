/-
  The landed pool: Encode. No statement is proved here.
-/
import Derived.Test.YtnckfgnhlnichaaPd
namespace Go.Proofs.Ytnckfgnhlnichaa
open Go.RowKit

set_option maxRecDepth 100000 in
set_option maxHeartbeats 4000000 in
theorem lencode_any {G : World → Prop} (hG : Steady G) : PEncodeOk G := by
  intro A n c l w hAt
  obtain ⟨i0, hi0, hz0, hz1, hz2⟩ := info_parts8 byte_info8
  have hl := hAt.len
  have HL := Lib.hid hl
  have HAt := Lib.hid (fun (u : World) (h : Below w.heap.size w u) => hAt.below hG h)
  have HK := Lib.hid (box1 w 24 #[.slice A n c])
  have k1 : (w.alloc (.cells #[.slice A n c] 24)).cell? ⟨w.heap.size, 0, none⟩ = some (.slice A n c) := HK.out.1.cell 0
  clear hAt hG
  cases hr : rightP l with
  | false =>
    have HV : Hid (encR l = ([], 180)) := Lib.hid (by unfold encR; rw [hr]; rfl)
    have HC := Lib.hid (fun (u : World) (h : Below w.heap.size w u) => check_no (HAt.out u h) hr)
    clear hr hl hi0 hz0 hz1 hz2
    go_enter Try.func24, Try.ntmps24
    go_wp2_with fail
    refine (HC.out _ HK.out.2).mono ?_
    rintro e w2 ⟨rfl, h2⟩
    have B2 := HK.out.2.trans (h2.mono HK.out.2.size)
    go_wp2
    go_ret2
    rw [HV.out]
    exact ⟨none, 0, rfl, Nat.le_refl _, Reads.none_, B2⟩
  | true =>
    have HV : Hid (encR l = (bytesP l, 0)) := Lib.hid (if_pos hr)
    have HC := Lib.hid (fun (u : World) (h : Below w.heap.size w u) => check_yes (HAt.out u h) hr)
    obtain ⟨r1, r4, rs, _⟩ := right_parts8 hr
    have wn : IntKind.u8.wrap (n : Int) = (n : Int) := u8_nat (by omega)
    have HSets := Lib.hid rs
    have HN4 : Hid (n ≤ 4) := Lib.hid (by omega)
    clear hr hl r1 r4 rs
    go_enter Try.func24, Try.ntmps24
    go_wp2_with fail
    refine (HC.out _ HK.out.2).mono ?_
    rintro e w2 ⟨rfl, h2⟩
    have K2 := HK.out.1.below h2 HK.out.1.lt
    have B2 := HK.out.2.trans (h2.mono HK.out.2.size)
    have HB := Lib.hid (And.intro (B2.alloc B2.size (.cells #[.int .u8 (n : Int)] 5)) (K2.alloc (.cells #[.int .u8 (n : Int)] 5)))
    have HR := Lib.hid (HAt.out _ B2).1
    have k2 := K2.cell 0
    have kz : (w2.alloc (.cells #[.int .u8 (n : Int)] 5)).cell? ⟨w.heap.size, 0, none⟩ = some (.slice A n c) := HB.out.2.cell 0
    have HO : Hid ((w2.alloc (.cells #[.int .u8 (n : Int)] 5)).ownsRow w.heap.size 5 1 (.slice (some ⟨w2.heap.size, 0, none⟩) 1 1) 1 (ub [n])) := Lib.hid (by
      have := own_built (w := w2) (base := w.heap.size) (e := 5) #[.int .u8 (n : Int)] 1 (by have := B2.size; omega) rfl (by simp [maxLen])
      simpa [ub] using this)
    have HRR := Lib.hid (fun (u : World) (h : Below w.heap.size w u) => (HAt.out u h).1)
    clear h2 K2 B2 k1
    go_wp2_with fail
    clear kz k2
    go_loopw [5, 21] (fun v i wr => ∃ k m : Nat, k ≤ n ∧ i = .int .i64 (k : Int) ∧ Hid (m = 1 + k) ∧ Hid (wr.ownsRow w.heap.size 5 1 v m (ub (n :: l.take k))) ∧ Below w.heap.size w wr) (fun _ i _ => n - (intOf i).toNat)
    case atStart => exact ⟨0, 1, by omega, rfl, Lib.hid rfl, Lib.hid HO.out, HB.out.1⟩
    case round =>
      obtain ⟨k, m, hk, rfl, Hm, HO2, hB⟩ := hrel
      by_cases hlt : k < n
      · obtain ⟨ad, x, rfl, hb, hm, d0⟩ := uset_at (HRR.out _ hB) hlt
        obtain ⟨x8, x0⟩ := sets_at HSets.out hm
        have wx : IntKind.u8.wrap (x : Int) = (x : Int) := u8_nat x8
        have HM : Hid (n :: l.take (k + 1) = (n :: l.take k) ++ [x]) := Lib.hid (by rw [List.take_add_one, hm]; rfl)
        have hsz := hB.size
        have hk9 : k < 100 := by have := HN4.out; omega
        have m20 : m ≤ 20 := by have := HN4.out; rw [Hm.out]; omega
        obtain ⟨A2, c2, rfl, _, _⟩ := own_reads HO2.out
        clear hm x8 x0
        go_wp2_with (
          at_builtin
          refine wpList_append_any _ rfl (.tmp 25) (.tmp 28) 51 rfl w.heap.size 5 i0 (.int .u8 0) 1 1 Try.underlying51 hi0 hz0 hz1 hz2 rfl (by decide) (.slice A2 m c2) m (ub (n :: l.take k)) rfl (HO2.out.alloc _) _ (some ⟨wr.heap.size, 0, none⟩) 1 1 (ub [x]) rfl (reads_b1 _ 5 x rfl) (ub_ones _) (by simp only [maxLen]; omega) (by omega) (by unfold World.alloc; simp <;> omega) ?_
          intro v9 w9 own9 grow9 _
          rw [← ub_append] at own9
          have B9' := hB.alloc hsz (.cells #[.int .u8 (x : Int)] 5)
          have HT := Lib.hid (And.intro own9 (show Below w.heap.size w w9 from B9'.grown grow9 B9'.size (fun g hg => (HO2.out.lt g hg).1)))
          clear own9 grow9 B9')
        go_wp2_with fail
        go_roundw
        case rel => exact ⟨k + 1, m + 1, by omega, by go_num, Lib.hid (by rw [Hm.out]; omega), Lib.hid (by rw [HM.out]; exact HT.out.1), HT.out.2⟩
        case measure => simp [intOf] <;> omega
      · obtain rfl : n = k := by omega
        obtain ⟨A2, c2, rfl, hc2, _⟩ := own_reads HO2.out
        have HF : Hid (wr.ownsRow w.heap.size 5 1 (.slice A2 m c2) m (ub (bytesP l))) := Lib.hid (by
          have := HO2.out
          rw [show l.take n = l by rw [← HL.out]; exact List.take_length] at this
          unfold bytesP
          rw [HL.out]
          exact this)
        have hml : Hid ((bytesP l).length = m) := Lib.hid (by unfold bytesP; rw [List.length_cons, HL.out, Hm.out]; omega)
        have HC2 := Lib.hid hc2
        clear HO2 hc2
        go_wp2
        go_ret2
        rw [HV.out]
        exact ⟨A2, c2, by rw [hml.out]; rfl, by rw [hml.out]; exact HC2.out, by rw [hml.out]; exact own_reads' HF.out, hB⟩

end Go.Proofs.Ytnckfgnhlnichaa
