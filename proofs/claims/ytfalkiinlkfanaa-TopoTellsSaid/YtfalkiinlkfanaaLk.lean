/-
  The contract of the landed topo: Near, whole. No statement is proved here.
-/
import Derived.Test.YtfalkiinlkfanaaLi
namespace Go.Proofs.Ytfalkiinlkfanaa
open Go.RowKit Go.Shelf

theorem near_no {l : List (Int × Int)} {a s : Int} (h : ¬ (if refT l [a] = 0 then chkV s else refT l [a]) = 0) : nearR l a s = ([], if refT l [a] = 0 then chkV s else refT l [a]) := by
  unfold nearR refT chkV at *
  have e : [a].all (cpuT l.length) = cpuT l.length a := by simp
  rw [e] at h ⊢
  cases hr : rightT l with
  | false => rfl
  | true =>
    rw [hr] at h
    cases hc : cpuT l.length a with
    | false => rfl
    | true =>
      rw [hc] at h
      by_cases hs : s < 256
      · simp [hs] at h
      · simp [hs]
theorem near_yes {l : List (Int × Int)} {n : Nat} (hl : l.length = n) {a s : Int} (h : (if refT l [a] = 0 then chkV s else refT l [a]) = 0) :
    rightT l = true ∧ s < 256 ∧ ∃ k : Nat, a = (k : Int) ∧ k < n ∧ nearR l a s = (nearL l s k, 0) := by
  unfold refT chkV at h
  subst hl
  have e : [a].all (cpuT l.length) = cpuT l.length a := by simp
  rw [e] at h
  cases hr : rightT l with
  | false => rw [hr] at h; simp at h
  | true =>
    rw [hr] at h
    cases hc : cpuT l.length a with
    | false => rw [hc] at h; simp at h
    | true =>
      rw [hc] at h
      by_cases hs : s < 256
      · obtain ⟨k, rfl, hk⟩ := cpuT_true hc
        refine ⟨rfl, hs, k, rfl, hk, ?_⟩
        unfold nearR
        rw [hr, hc, if_pos rfl, if_pos rfl, if_pos hs, Int.toNat_natCast]
      · simp [hs] at h

set_option maxRecDepth 100000 in
set_option maxHeartbeats 4000000 in
theorem tnear_ok : TNearOk := by
  intro A n c l a s w hAt s0 s1
  have hl := hAt.len
  obtain ⟨K0, K1, K2, B⟩ := blks3 w 27 3 34 #[.slice A n c] #[.int .i64 a] #[.int .u32 s]
  have hA3 := hAt.past B (Nat.le_refl _)
  have HF := Lib.hid (fun u g (h : At u A n c l) (K : Blk u g 3 #[.int .i64 a]) => refused_any A n c l (some ⟨g, 0, none⟩) 1 1 [a] u h (by simpa [vs] using reads_row K) (by omega))
  have HQ := Lib.hid (fun u => ccheck_any s u s0 s1)
  have hno := fun h => near_no (l := l) (a := a) (s := s) h
  have hyes := fun h => near_yes (l := l) hl (a := a) (s := s) h
  generalize refT l [a] = E1 at HF hno hyes
  generalize chkV s = E2 at HQ hno hyes
  have HO := Lib.hid (fun u g (K : Blk u g 30 #[.int .i64 E1, .int .i64 E2]) => or_any (some ⟨g, 0, none⟩) 2 E1 E2 u (by simpa [vs] using reads_row K))
  generalize (if E1 = 0 then E2 else E1) = O at HO hno hyes
  have HB := Lib.hid (And.intro K0 (And.intro K1 (And.intro K2 (And.intro B hA3))))
  have HK := Lib.hid (fun u (h : Below (w.heap.size + 1 + 1 + 1) (((w.alloc (.cells #[.slice A n c] 27)).alloc (.cells #[.int .i64 a] 3)).alloc (.cells #[.int .u32 s] 34)) u) =>
    show u.cell? ⟨w.heap.size, 0, none⟩ = some (.slice A n c) ∧ u.cell? ⟨w.heap.size + 1, 0, none⟩ = some (.int .i64 a) ∧ u.cell? ⟨w.heap.size + 1 + 1, 0, none⟩ = some (.int .u32 s) from
      ⟨(K0.below h (by omega)).cell 0, (K1.below h (by omega)).cell 0, (K2.below h (by omega)).cell 0⟩)
  clear K0 K1 K2 B hA3 hAt
  by_cases hO : O = 0
  · obtain ⟨hr, hs8, k, rfl, hk, hv⟩ := hyes hO
    obtain rfl := hO
    rw [hv]
    have h8 : n ≤ 8 := by rw [← hl]; exact (right_parts hr).2.2
    have hwl : whereL l (fun (j : Nat) => hasB s (j : Int)) n = toldL (fun (j : Nat) => hasB s (j : Int)) n := by unfold whereL; rw [hr]; rfl
    have HW := Lib.hid (fun u => where_any A n c 52 #[.pointer (some ⟨w.heap.size + 1 + 1, 0, none⟩)] u)
    have HG := Lib.hid (fun (u : World) (K2 : Blk u (w.heap.size + 1 + 1) 34 #[.int .u32 s]) (x y : Nat) Kx Ky (hA : At u A n c l) =>
      collect_any x y _ u (by rw [hwl]; exact Nat.le_trans (length_told _ n) h8) (toldNear_stops 4 (by decide) x y (w.heap.size + 1 + 1) A n c l (fun (j : Nat) => hasB s (j : Int)) 82 u Kx Ky hA
        (fun _ j _ v hu => has1_any (w.heap.size + 1 + 1) s j v s0 s1 (K2.below hu K2.lt))))
    rw [hwl] at HG
    have HS := Lib.hid (fun (v : Value) (w3 u : World) (K0 : Blk w3 w.heap.size 27 #[.slice A n c]) (K1 : Blk w3 (w.heap.size + 1) 3 #[.int .i64 (k : Int)]) (hA : At w3 A n c l) (hW : Below w3.heap.size w3 u) ho =>
      near_sort w.heap.size (w.heap.size + 1) w3.heap.size A n c l s k v w3 u K0 K1 hA hk h8 rfl hW ho)
    clear hv hno hyes hr hs8 hwl h8 hk hl
    generalize nearL l s k = N at HS ⊢
    generalize toldL (fun (j : Nat) => hasB s (j : Int)) n = L at HG HS
    have B0 := Below.refl (w.heap.size + 1 + 1 + 1) (((w.alloc (.cells #[.slice A n c] 27)).alloc (.cells #[.int .i64 (k : Int)] 3)).alloc (.cells #[.int .u32 s] 34))
    have D2 : Below (w.heap.size + 1 + 1 + 1) (((w.alloc (.cells #[.slice A n c] 27)).alloc (.cells #[.int .i64 (k : Int)] 3)).alloc (.cells #[.int .u32 s] 34)) (((((w.alloc (.cells #[.slice A n c] 27)).alloc (.cells #[.int .i64 (k : Int)] 3)).alloc (.cells #[.int .u32 s] 34)).alloc (.cells #[.int .i64 (k : Int)] 3)).drew) := (B0.alloc (by simp) (.cells #[.int .i64 (k : Int)] 3)).drew
    have k1 := HK.out _ B0.drew
    have k2 := HK.out _ D2
    have A2 : At (((((w.alloc (.cells #[.slice A n c] 27)).alloc (.cells #[.int .i64 (k : Int)] 3)).alloc (.cells #[.int .u32 s] 34)).alloc (.cells #[.int .i64 (k : Int)] 3)).drew) A n c l := HB.out.2.2.2.2.below (((Below.refl _ _).alloc (Nat.le_refl _) _).drew)
    have KR : Blk (((((w.alloc (.cells #[.slice A n c] 27)).alloc (.cells #[.int .i64 (k : Int)] 3)).alloc (.cells #[.int .u32 s] 34)).alloc (.cells #[.int .i64 (k : Int)] 3)).drew) (w.heap.size + 1 + 1 + 1) 3 #[.int .i64 (k : Int)] := by
      have h := Blk.new (((w.alloc (.cells #[.slice A n c] 27)).alloc (.cells #[.int .i64 (k : Int)] 3)).alloc (.cells #[.int .u32 s] 34)) 3 #[.int .i64 (k : Int)]
      rw [show (((w.alloc (.cells #[.slice A n c] 27)).alloc (.cells #[.int .i64 (k : Int)] 3)).alloc (.cells #[.int .u32 s] 34)).heap.size = w.heap.size + 1 + 1 + 1 by simp] at h
      exact h
    have sz2 := D2.size
    have s33 : (w.heap.size + 1 + 1 + 1) ≤ (((((w.alloc (.cells #[.slice A n c] 27)).alloc (.cells #[.int .i64 (k : Int)] 3)).alloc (.cells #[.int .u32 s] 34)).alloc (.cells #[.int .i64 (k : Int)] 3)).drew).heap.size := by simp
    clear B0
    go_enter Try.func22, Try.ntmps22
    go_upto_region 1 with fail
    go_region_held3 (fun w' => w'.cell? ⟨w.heap.size, 0, none⟩ = some (.slice A n c) ∧ w'.cell? ⟨w.heap.size + 1, 0, none⟩ = some (.int .i64 (k : Int)) ∧ w'.cell? ⟨w.heap.size + 1 + 1, 0, none⟩ = some (.int .u32 s))
      (first | exact k4 | exact k3 | exact k2 | exact k1)
      (first
        | (go_at_call 49; (with_reducible refine (HO.out _ _ KO).mono ?_); rintro e w6 ⟨rfl, rfl⟩)
        | (go_at_call 50; (with_reducible refine (HQ.out _).mono ?_); rintro e w5 ⟨rfl, rfl⟩)
        | (go_at_call 47; (with_reducible refine (HF.out _ _ A2 KR).mono ?_); rintro e w4 ⟨rfl, h4⟩; have D3 := D2.trans (h4.mono s33); have k3 := HK.out _ D3; have A3 := A2.below h4; have sz3 := Nat.le_trans s33 h4.size; have D4 := D3.alloc sz3 (.cells #[.int .i64 E1, .int .i64 E2] 30); have k4 := HK.out _ D4; have KO := Blk.new w4 30 #[.int .i64 E1, .int .i64 E2]; clear h4))
    have K0 := HB.out.1.below D4 (by omega)
    have K1 := HB.out.2.1.below D4 (by omega)
    have K2 := HB.out.2.2.1.below D4 (by omega)
    have A4 := A3.below ((Below.refl _ _).alloc (Nat.le_refl _) (.cells #[.int .i64 E1, .int .i64 E2] 30))
    have B4 := HB.out.2.2.2.1.trans (D4.mono (show w.heap.size ≤ w.heap.size + 1 + 1 + 1 by omega))
    clear D2 D3 D4 k1 k2 k3 k4 A2 A3 KR KO HO HQ HF HK HB sz2 sz3 s33
    generalize w4.alloc (.cells #[.int .i64 E1, .int .i64 E2] 30) = U4 at *
    have k0 := K0.cell 0
    obtain ⟨Kx, Ky, B5⟩ := blks2 U4 27 82 #[.slice A n c] #[.func (.func 52) #[] #[.pointer (some ⟨w.heap.size + 1 + 1, 0, none⟩)]]
    have A5 := A4.past B5 (Nat.le_refl _)
    have HG3 := Lib.hid (HG.out _ (K2.below B5 K2.lt) U4.heap.size (U4.heap.size + 1) Kx Ky A5)
    have HS3 := Lib.hid (fun v w6 => HS.out v _ w6 (K0.below B5 K0.lt) (K1.below B5 K1.lt) A5)
    have HB5 := Lib.hid (B4.trans (B5.mono B4.size))
    clear HG HS K0 K1 K2 A4 B4 Kx Ky A5 B5
    go_wp2_with fail
    refine (HW.out _).mono ?_
    rintro e w5 ⟨rfl, rfl⟩
    clear k0
    go_wp2_with fail
    refine HG3.out.mono ?_
    rintro e w6 ⟨v, rfl, ho, h6⟩
    have HS4 := Lib.hid (HS3.out v w6 h6 ho)
    clear HG3 HS3 HW ho h6
    go_wp2_with fail
    refine HS4.out.mono ?_
    rintro e w7 ⟨rfl, ⟨D, m, cap, rfl, hm, hcap, hR⟩, h7⟩
    have HE := Lib.hid (And.intro hm (And.intro hcap (And.intro hR (HB5.out.trans (h7.mono HB5.out.size)))))
    clear hm hcap hR h7 HS4 HB5
    go_wp2
    go_ret2
    exact ⟨D, m, cap, rfl, HE.out.1, HE.out.2.1, HE.out.2.2.1, HE.out.2.2.2⟩
  · have hv := hno hO
    have hO2 : (O == 0) = false := by simpa using hO
    rw [hv]
    clear hv hno hyes hO
    have B0 := Below.refl (w.heap.size + 1 + 1 + 1) (((w.alloc (.cells #[.slice A n c] 27)).alloc (.cells #[.int .i64 a] 3)).alloc (.cells #[.int .u32 s] 34))
    have D2 : Below (w.heap.size + 1 + 1 + 1) (((w.alloc (.cells #[.slice A n c] 27)).alloc (.cells #[.int .i64 a] 3)).alloc (.cells #[.int .u32 s] 34)) (((((w.alloc (.cells #[.slice A n c] 27)).alloc (.cells #[.int .i64 a] 3)).alloc (.cells #[.int .u32 s] 34)).alloc (.cells #[.int .i64 a] 3)).drew) := (B0.alloc (by simp) (.cells #[.int .i64 a] 3)).drew
    have k1 := HK.out _ B0.drew
    have k2 := HK.out _ D2
    have A2 : At (((((w.alloc (.cells #[.slice A n c] 27)).alloc (.cells #[.int .i64 a] 3)).alloc (.cells #[.int .u32 s] 34)).alloc (.cells #[.int .i64 a] 3)).drew) A n c l := HB.out.2.2.2.2.below (((Below.refl _ _).alloc (Nat.le_refl _) _).drew)
    have KR : Blk (((((w.alloc (.cells #[.slice A n c] 27)).alloc (.cells #[.int .i64 a] 3)).alloc (.cells #[.int .u32 s] 34)).alloc (.cells #[.int .i64 a] 3)).drew) (w.heap.size + 1 + 1 + 1) 3 #[.int .i64 a] := by
      have h := Blk.new (((w.alloc (.cells #[.slice A n c] 27)).alloc (.cells #[.int .i64 a] 3)).alloc (.cells #[.int .u32 s] 34)) 3 #[.int .i64 a]
      rw [show (((w.alloc (.cells #[.slice A n c] 27)).alloc (.cells #[.int .i64 a] 3)).alloc (.cells #[.int .u32 s] 34)).heap.size = w.heap.size + 1 + 1 + 1 by simp] at h
      exact h
    have sz2 := D2.size
    have s33 : (w.heap.size + 1 + 1 + 1) ≤ (((((w.alloc (.cells #[.slice A n c] 27)).alloc (.cells #[.int .i64 a] 3)).alloc (.cells #[.int .u32 s] 34)).alloc (.cells #[.int .i64 a] 3)).drew).heap.size := by simp
    clear B0
    go_enter Try.func22, Try.ntmps22
    go_upto_region 1 with fail
    go_region_held3 (fun w' => w'.cell? ⟨w.heap.size, 0, none⟩ = some (.slice A n c) ∧ w'.cell? ⟨w.heap.size + 1, 0, none⟩ = some (.int .i64 a) ∧ w'.cell? ⟨w.heap.size + 1 + 1, 0, none⟩ = some (.int .u32 s))
      (first | exact k4 | exact k3 | exact k2 | exact k1)
      (first
        | (go_at_call 49; (with_reducible refine (HO.out _ _ KO).mono ?_); rintro e w6 ⟨rfl, rfl⟩)
        | (go_at_call 50; (with_reducible refine (HQ.out _).mono ?_); rintro e w5 ⟨rfl, rfl⟩)
        | (go_at_call 47; (with_reducible refine (HF.out _ _ A2 KR).mono ?_); rintro e w4 ⟨rfl, h4⟩; have D3 := D2.trans (h4.mono s33); have k3 := HK.out _ D3; have A3 := A2.below h4; have sz3 := Nat.le_trans s33 h4.size; have D4 := D3.alloc sz3 (.cells #[.int .i64 E1, .int .i64 E2] 30); have k4 := HK.out _ D4; have KO := Blk.new w4 30 #[.int .i64 E1, .int .i64 E2]; clear h4))
    have HB4 := Lib.hid (HB.out.2.2.2.1.trans (D4.mono (by omega)))
    clear D2 D3 D4 k1 k2 k3 k4 A2 A3 KR KO
    go_wp2
    go_ret2
    exact ⟨none, 0, 0, rfl, rfl, Nat.le_refl _, Reads.none_, HB4.out⟩

end Go.Proofs.Ytfalkiinlkfanaa
