/-
  The contract of the document's Join, of pools that may be. No statement is proved here.
-/
import Derived.Test.YtnckfgnhlnichaaVe
namespace Go.Proofs.Ytnckfgnhlnichaa
open Go.RowKit

theorem joinK_skip {l : List Nat} {p i : Nat} : joinK l p i (p + 1) = joinK l p i p := if_pos rfl
theorem joinK_into {l : List Nat} {p i x y : Nat} (hi : i ≠ p) (hx : l[i]? = some x) (hy : l[p]? = some y) : joinK l p i (i + 1) = joinK l p i i ++ [x + y] := by
  show (if i = p then _ else _) = _
  rw [if_neg hi, if_pos rfl, getD_at hx, getD_at hy]
theorem joinK_else {l : List Nat} {p i k x : Nat} (hp : k ≠ p) (hi : k ≠ i) (hx : l[k]? = some x) : joinK l p i (k + 1) = joinK l p i k ++ [x] := by
  show (if k = p then _ else _) = _
  rw [if_neg hp, if_neg hi, getD_at hx]

set_option maxRecDepth 100000 in
set_option maxHeartbeats 16000000 in
theorem rjoin_any (A : Option Addr) (n c : Nat) (l : List Nat) (pp ii : Int) (w : World) (hR : Reads w w.heap.size 1 A n (us l)) (hr : rightP l = true) :
    Calls Try.prog 33 #[.agg #[.slice A n c], .int .i64 pp, .int .i64 ii] w (GivesP2 (joinV l pp ii) w) := by
  obtain ⟨i0, hi0, hz0, hz1, hz2⟩ := info_parts8 cpus_info
  have hl := usets_len hR
  obtain ⟨r1, r4, rs, _⟩ := right_parts8 hr
  have HP1 := Lib.hid (fun u => rpool_any A n c l pp u hl)
  have HP2 := Lib.hid (fun u => rpool_any A n c l ii u hl)
  obtain ⟨K1, K2, B⟩ := blks2 w 24 24 #[.slice A n c] #[.slice none 0 0]
  have k1 : ((w.alloc (.cells #[.slice A n c] 24)).alloc (.cells #[.slice none 0 0] 24)).cell? ⟨w.heap.size, 0, none⟩ = some (.slice A n c) := K1.cell 0
  cases hp : poolB l pp with
  | false =>
    rw [hp] at HP1
    have HV : Hid (joinV l pp ii = ([], 4)) := Lib.hid (if_pos (.inl hp))
    clear hp hr hR hi0 hz0 hz1 hz2 rs
    go_enter Try.func33, Try.ntmps33
    go_wp2_with fail
    refine (HP1.out _).mono ?_
    rintro e w3 ⟨rfl, h9⟩
    replace K1 := K1.below h9 K1.lt
    replace K2 := K2.below h9 K2.lt
    replace B := B.trans (h9.mono B.size)
    clear h9 k1
    have k1 : w3.cell? ⟨w.heap.size, 0, none⟩ = some (.slice A n c) := K1.cell 0
    have k2 := K2.cell 0
    have f2 := K2.frozen 0
    have HKF := Lib.hid (put1 (x := .slice none 0 0) K2 B (by omega))
    clear K1 K2 B
    go_wp2_with fail
    rw [HV.out]
    exact bodyPost_ret (v := .tuple #[.agg #[.slice none 0 0], .int .i64 4]) (results_pools2 Try.results33 _ _ _ _ _ _ rfl HKF.out.1 Try.underlying24 rfl (by kernel_rfl)) rfl (GivesP2.none_ HKF.out.2)
  | true =>
    rw [hp] at HP1
    cases hq : poolB l ii with
    | false =>
      rw [hq] at HP2
      have HV : Hid (joinV l pp ii = ([], 4)) := Lib.hid (if_pos (.inr hq))
      clear hp hq hr hR hi0 hz0 hz1 hz2 rs
      go_enter Try.func33, Try.ntmps33
      go_wp2_with fail
      refine (HP1.out _).mono ?_
      rintro e w3 ⟨rfl, h9⟩
      replace K1 := K1.below h9 K1.lt
      replace K2 := K2.below h9 K2.lt
      replace B := B.trans (h9.mono B.size)
      clear h9 k1
      have k1 : w3.cell? ⟨w.heap.size, 0, none⟩ = some (.slice A n c) := K1.cell 0
      go_wp2_with fail
      refine (HP2.out _).mono ?_
      rintro e w4 ⟨rfl, h9⟩
      replace K1 := K1.below h9 K1.lt
      replace K2 := K2.below h9 K2.lt
      replace B := B.trans (h9.mono B.size)
      clear h9 k1
      have k1 : w4.cell? ⟨w.heap.size, 0, none⟩ = some (.slice A n c) := K1.cell 0
      have k2 := K2.cell 0
      have f2 := K2.frozen 0
      have HKF := Lib.hid (put1 (x := .slice none 0 0) K2 B (by omega))
      clear K1 K2 B
      go_wp2_with fail
      rw [HV.out]
      exact bodyPost_ret (v := .tuple #[.agg #[.slice none 0 0], .int .i64 4]) (results_pools2 Try.results33 _ _ _ _ _ _ rfl HKF.out.1 Try.underlying24 rfl (by kernel_rfl)) rfl (GivesP2.none_ HKF.out.2)
    | true =>
      rw [hq] at HP2
      have hno : ¬ (poolB l pp = false ∨ poolB l ii = false) := by rw [hp, hq]; simp
      by_cases he : pp = ii
      · have HV : Hid (joinV l pp ii = ([], 2)) := Lib.hid (by unfold joinV; rw [if_neg hno, if_pos he])
        have hz : (pp == ii) = true := by simpa using he
        clear hp hq hr hR hi0 hz0 hz1 hz2 rs he hno
        go_enter Try.func33, Try.ntmps33
        go_wp2_with fail
        refine (HP1.out _).mono ?_
        rintro e w3 ⟨rfl, h9⟩
        replace K1 := K1.below h9 K1.lt
        replace K2 := K2.below h9 K2.lt
        replace B := B.trans (h9.mono B.size)
        clear h9 k1
        have k1 : w3.cell? ⟨w.heap.size, 0, none⟩ = some (.slice A n c) := K1.cell 0
        go_wp2_with fail
        refine (HP2.out _).mono ?_
        rintro e w4 ⟨rfl, h9⟩
        replace K1 := K1.below h9 K1.lt
        replace K2 := K2.below h9 K2.lt
        replace B := B.trans (h9.mono B.size)
        clear h9 k1
        have k1 : w4.cell? ⟨w.heap.size, 0, none⟩ = some (.slice A n c) := K1.cell 0
        have k2 := K2.cell 0
        have f2 := K2.frozen 0
        have HKF := Lib.hid (put1 (x := .slice none 0 0) K2 B (by omega))
        clear K1 K2 B
        go_wp2_with fail
        rw [HV.out]
        exact bodyPost_ret (v := .tuple #[.agg #[.slice none 0 0], .int .i64 2]) (results_pools2 Try.results33 _ _ _ _ _ _ rfl HKF.out.1 Try.underlying24 rfl (by kernel_rfl)) rfl (GivesP2.none_ HKF.out.2)
      · have hz : (pp == ii) = false := by simpa using he
        obtain ⟨p, rfl, hpl⟩ := poolB_true hp
        obtain ⟨i, rfl, hil⟩ := poolB_true hq
        have HV : Hid (joinV l (p : Int) (i : Int) = (joinK l p i n, 0)) := Lib.hid (by unfold joinV; rw [if_neg hno, if_neg he, Int.toNat_natCast, Int.toNat_natCast, hl])
        obtain ⟨ad, y, rfl, had, hyl, hy⟩ := uset_at hR (k := p) (by omega)
        obtain ⟨y8, y0⟩ := sets_at rs hyl
        have HR := Lib.hid hR
        have HL := Lib.hid hl
        have HSets := Lib.hid rs
        have HY := Lib.hid (And.intro hyl (And.intro hy had))
        have HN4 : Hid (n ≤ 4 ∧ p < n ∧ i < n ∧ i ≠ p) := Lib.hid ⟨by omega, by omega, by omega, fun e => he (by rw [e])⟩
        have p0 : (0 : Int) ≤ (p : Int) := by omega
        have p1 : (p : Int) < (n : Int) := by omega
        clear hp hq hr hR rs he hno hl r1 r4 hpl hil hyl hy had
        go_enter Try.func33, Try.ntmps33
        go_wp2_with fail
        refine (HP1.out _).mono ?_
        rintro e w3 ⟨rfl, h9⟩
        replace K1 := K1.below h9 K1.lt
        replace K2 := K2.below h9 K2.lt
        replace B := B.trans (h9.mono B.size)
        clear h9 k1
        have k1 : w3.cell? ⟨w.heap.size, 0, none⟩ = some (.slice (some ad) n c) := K1.cell 0
        go_wp2_with fail
        refine (HP2.out _).mono ?_
        rintro e w4 ⟨rfl, h9⟩
        replace K1 := K1.below h9 K1.lt
        replace K2 := K2.below h9 K2.lt
        replace B := B.trans (h9.mono B.size)
        clear h9 k1
        have k1 : w4.cell? ⟨w.heap.size, 0, none⟩ = some (.slice (some ad) n c) := K1.cell 0
        have Z := Blk.new w4 24 #[.slice none 0 0]
        have hw4 : w.heap.size + 1 + 1 ≤ w4.heap.size := K2.lt
        have K1' := K1.alloc (.cells #[.slice none 0 0] 24)
        have K2' := K2.alloc (.cells #[.slice none 0 0] 24)
        have B' := B.alloc B.size (.cells #[.slice none 0 0] 24)
        have HW4 := Lib.hid hw4
        have kz : (w4.alloc (.cells #[.slice none 0 0] 24)).cell? ⟨w.heap.size, 0, none⟩ = some (.slice (some ad) n c) := K1'.cell 0
        clear K1 K2 B k1 hw4
        go_wp2_with fail
        clear kz
        go_loopw [31] (fun j wr => ∃ (k : Nat) (v : Value), k ≤ n ∧ j = .int .i64 (k : Int) ∧ Hid (wr.ownsRow (w4.heap.size + 1) 29 1 v (joinK l p i k).length (us (joinK l p i k))) ∧ Blk wr w4.heap.size 24 #[v] ∧ Blk wr w.heap.size 24 #[.slice (some ad) n c] ∧ Blk wr (w.heap.size + 1) 24 #[.slice none 0 0] ∧ Below w.heap.size w wr) (fun j _ => n - (intOf j).toNat)
        case atStart => exact ⟨0, .slice none 0 0, by omega, rfl, Lib.hid (World.ownsRow_nil _ _ _ _), Z, K1', K2', B'⟩
        case round =>
          clear Z K1' K2' B'
          obtain ⟨k, v, hk, rfl, HO, K3, K1, K2, Br⟩ := hrel
          obtain ⟨A2, c2, rfl, _, _⟩ := own_reads HO.out
          obtain ⟨m, hm⟩ : ∃ m, (joinK l p i k).length = m := ⟨_, rfl⟩
          have HM := Lib.hid hm
          have HM4 : Hid (m ≤ 4) := Lib.hid (by have := joinK_len l p i k; have := HN4.out.1; omega)
          rw [hm] at HO K3
          clear hm
          have HO2 := HO
          have HSZ : Hid (w4.heap.size + 1 ≤ wr.heap.size) := Lib.hid K3.lt
          have k3 := K3.cell 0
          have f3 := K3.frozen 0
          have k1 := K1.cell 0
          by_cases hlt : k < n
          · obtain ⟨ad', x, hA', hb, hxl, hx⟩ := uset_at (HR.out.below Br) hlt
            obtain rfl := Option.some.inj hA'
            obtain ⟨x8, x0⟩ := sets_at HSets.out hxl
            have hy : wr.cell? (ad.add p) = some (.int .u32 (y : Int)) := (Br.cell (p := ad.add p) (by rw [block_of_add]; exact HY.out.2.2)).trans HY.out.2.1
            have HX := Lib.hid hxl
            have hk9 : k < 100 := by have := HN4.out.1; omega
            have HS := Lib.hid (And.intro K3 (And.intro K1 (And.intro K2 Br)))
            clear hxl hA' HO
            by_cases hki : k = i
            · have g1 : ((k : Int) == (i : Int)) = true := by simp; omega
              have g2 : ((k : Int) != (p : Int)) = true := by have := HN4.out.2.2.2; simp; omega
              obtain ⟨z, hz9⟩ : ∃ z, z = x + y := ⟨_, rfl⟩
              have hw9 : IntKind.u32.wrap ((x : Int) + (y : Int)) = (z : Int) := by rw [IntKind.wrap_u32']; omega
              have HJ : Hid (joinK l p i (k + 1) = joinK l p i k ++ [z]) := Lib.hid (by have h1 := HX.out; rw [hki] at h1 ⊢; rw [joinK_into HN4.out.2.2.2 h1 HY.out.1, hz9])
              clear hz9 hki K1 K2 K3 Br
              go_wp2_with (
                at_builtin
                refine wpList_append_any _ rfl (.tmp 50) (.tmp 52) 22 rfl (w4.heap.size + 1) 29 i0 (.int .u32 0) 1 4 Try.underlying22 hi0 hz0 hz1 hz2 rfl (by decide) (.slice A2 m c2) m (us (joinK l p i k)) rfl (HO2.out.alloc _) _ (some ⟨wr.heap.size, 0, none⟩) 1 1 (us [z]) rfl (reads_u1' _ 29 (z) rfl) (us_ones _) (by have := HM4.out; simp only [maxLen]; omega) (by have := HM4.out; omega) (by have := HSZ.out; unfold World.alloc; simp; omega) ?_
                intro v9 w9 own9 grow9 _
                rw [← us_append] at own9
                obtain ⟨A9, c9, rfl, hc9, r9⟩ := own_reads own9
                clear hc9 r9
                have K39 := (HS.out.1.alloc (.cells #[.int .u32 ((z : Nat) : Int)] 29)).grown grow9 (fun e => by have := (HO2.out.lt _ e.symm).1; have := HW4.out; omega)
                have K19 := (HS.out.2.1.alloc (.cells #[.int .u32 ((z : Nat) : Int)] 29)).grown grow9 (fun e => by have := (HO2.out.lt _ e.symm).1; have := HW4.out; omega)
                have K29 := (HS.out.2.2.1.alloc (.cells #[.int .u32 ((z : Nat) : Int)] 29)).grown grow9 (fun e => by have := (HO2.out.lt _ e.symm).1; have := HW4.out; omega)
                have B9' := HS.out.2.2.2.alloc HS.out.2.2.2.size (.cells #[.int .u32 ((z : Nat) : Int)] 29)
                have B9 : Below w.heap.size w w9 := B9'.grown grow9 B9'.size (fun g' hg' => by have := (HO2.out.lt _ hg').1; have := HW4.out; omega)
                have HT := Lib.hid (And.intro (own_set own9 (g := w4.heap.size) (by omega) 0 (.slice A9 (m + 1) c9)) (And.intro (put1 (x := .slice A9 (m + 1) c9) K39 B9 (by have := HW4.out; omega)) (And.intro (K19.far (p := ⟨w4.heap.size, 0, none⟩) (by have := HW4.out; simp <;> omega) (.slice A9 (m + 1) c9)) (K29.far (p := ⟨w4.heap.size, 0, none⟩) (by have := HW4.out; simp <;> omega) (.slice A9 (m + 1) c9)))))
                have t0 := K39.cell 0
                have t1 := K39.frozen 0
                clear own9 grow9 K39 K19 K29 B9' B9)
              go_wp2_with fail
              go_roundw
              case rel => exact ⟨k + 1, .slice A9 (m + 1) c9, by omega, by go_num, Lib.hid (by rw [HJ.out, List.length_append, HM.out]; exact HT.out.1), HT.out.2.1.1, HT.out.2.2.1, HT.out.2.2.2, HT.out.2.1.2⟩
              case measure => simp [intOf] <;> omega
            · have g1 : ((k : Int) == (i : Int)) = false := by simp; omega
              by_cases hkp : k = p
              · have g2 : ((k : Int) != (p : Int)) = false := by simp; omega
                have HJ : Hid (joinK l p i (k + 1) = joinK l p i k) := Lib.hid (by rw [hkp]; exact joinK_skip)
                clear hki hkp K1 K2 K3 Br
                go_wp2
                go_roundw
                case rel => exact ⟨k + 1, _, by omega, by go_num, Lib.hid (by rw [HJ.out, HM.out]; exact HO2.out), HS.out.1, HS.out.2.1, HS.out.2.2.1, HS.out.2.2.2⟩
                case measure => simp [intOf] <;> omega
              · have g2 : ((k : Int) != (p : Int)) = true := by simp; omega
                have HJ := Lib.hid (joinK_else hkp hki HX.out)
                clear hki hkp K1 K2 K3 Br
                go_wp2_with (
                  at_builtin
                  refine wpList_append_any _ rfl (.tmp 50) (.tmp 52) 22 rfl (w4.heap.size + 1) 29 i0 (.int .u32 0) 1 4 Try.underlying22 hi0 hz0 hz1 hz2 rfl (by decide) (.slice A2 m c2) m (us (joinK l p i k)) rfl (HO2.out.alloc _) _ (some ⟨wr.heap.size, 0, none⟩) 1 1 (us [x]) rfl (reads_u1' _ 29 (x) rfl) (us_ones _) (by have := HM4.out; simp only [maxLen]; omega) (by have := HM4.out; omega) (by have := HSZ.out; unfold World.alloc; simp; omega) ?_
                  intro v9 w9 own9 grow9 _
                  rw [← us_append] at own9
                  obtain ⟨A9, c9, rfl, hc9, r9⟩ := own_reads own9
                  clear hc9 r9
                  have K39 := (HS.out.1.alloc (.cells #[.int .u32 ((x : Nat) : Int)] 29)).grown grow9 (fun e => by have := (HO2.out.lt _ e.symm).1; have := HW4.out; omega)
                  have K19 := (HS.out.2.1.alloc (.cells #[.int .u32 ((x : Nat) : Int)] 29)).grown grow9 (fun e => by have := (HO2.out.lt _ e.symm).1; have := HW4.out; omega)
                  have K29 := (HS.out.2.2.1.alloc (.cells #[.int .u32 ((x : Nat) : Int)] 29)).grown grow9 (fun e => by have := (HO2.out.lt _ e.symm).1; have := HW4.out; omega)
                  have B9' := HS.out.2.2.2.alloc HS.out.2.2.2.size (.cells #[.int .u32 ((x : Nat) : Int)] 29)
                  have B9 : Below w.heap.size w w9 := B9'.grown grow9 B9'.size (fun g' hg' => by have := (HO2.out.lt _ hg').1; have := HW4.out; omega)
                  have HT := Lib.hid (And.intro (own_set own9 (g := w4.heap.size) (by omega) 0 (.slice A9 (m + 1) c9)) (And.intro (put1 (x := .slice A9 (m + 1) c9) K39 B9 (by have := HW4.out; omega)) (And.intro (K19.far (p := ⟨w4.heap.size, 0, none⟩) (by have := HW4.out; simp <;> omega) (.slice A9 (m + 1) c9)) (K29.far (p := ⟨w4.heap.size, 0, none⟩) (by have := HW4.out; simp <;> omega) (.slice A9 (m + 1) c9)))))
                  have t0 := K39.cell 0
                  have t1 := K39.frozen 0
                  clear own9 grow9 K39 K19 K29 B9' B9)
                go_wp2_with fail
                go_roundw
                case rel => exact ⟨k + 1, .slice A9 (m + 1) c9, by omega, by go_num, Lib.hid (by rw [HJ.out, List.length_append, HM.out]; exact HT.out.1), HT.out.2.1.1, HT.out.2.2.1, HT.out.2.2.2, HT.out.2.1.2⟩
                case measure => simp [intOf] <;> omega
          · obtain rfl : n = k := by omega
            have k2 := K2.cell 0
            have f2 := K2.frozen 0
            have HKF := Lib.hid (And.intro (put1 (x := .slice A2 m c2) K2 Br (by omega)) (own_set HO2.out (g := w.heap.size + 1) (by have := HW4.out; omega) 0 (.slice A2 m c2)))
            clear K1 K2 K3 Br
            go_wp2_with fail
            rw [HV.out]
            exact bodyPost_ret (v := .tuple #[.agg #[.slice A2 m c2], .int .i64 0]) (results_pools2 Try.results33 _ _ _ _ _ _ rfl HKF.out.1.1 Try.underlying24 rfl (by kernel_rfl)) rfl ⟨A2, c2, by simp only [HM.out], by simp only [HM.out]; exact own_down HKF.out.2 (by have := HW4.out; omega), HKF.out.1.2⟩

end Go.Proofs.Ytnckfgnhlnichaa
