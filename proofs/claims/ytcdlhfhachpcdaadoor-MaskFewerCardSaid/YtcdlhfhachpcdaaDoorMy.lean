/-
  MaskFirst's walk of more masks than it looks at, where there is a choice. No statement is proved here.
-/
import Derived.Test.YtcdlhfhachpcdaaDoorMi
namespace Go.Proofs.YtcdlhfhachpcdaaDoor
open Go.RowKit

set_option maxRecDepth 100000 in
set_option maxHeartbeats 16000000 in
theorem first_long (M N C : Nat) (hM : (10 : Int) < (M : Int)) (HT : Hid (N = 10)) (hC : (10 : Int) ≤ (C : Int)) (ad : Addr) (rest : Option Addr) (n : Nat) (x y a0 : Int) (S c0 : Nat) (R : List Int) (hb : Nat → Bool) (w : World) (hr : (if C = 1 then some ad else some (⟨ad.block, ad.off + 2, none⟩ : Addr)) = rest) (hN : n + 1 = N) (h10 : (N : Int) ≤ 10) (hN1 : (1 : Int) ≤ (N : Int)) (hN0 : 0 < N) (hz : ((N : Int) == 0) = false) (_hNC : (N : Int) ≤ (C : Int)) (had : ad.block < w.heap.size)
    (hx : w.cell? ad = some (.int .u32 x)) (hy : w.cell? ⟨ad.block, ad.off + 1, none⟩ = some (.int .u32 y)) (hc0 : c0 < 8) (hlen : Hid (R.length = n))
    (HD : Hid (Db w))
    (HK : Hid (TellsD 8 #[] (.bool true)))
    (HC : Hid (∀ u : World, Below w.heap.size w u → Calls Tryd.prog 19 #[.slice (some ad) N C, .int .u32 (S : Int)] u (GetsL ((c0 : Int) :: R, 0) u)))
    (HC2 : Hid (∀ u : World, Below w.heap.size w u → Calls Tryd.prog 19 #[.slice rest (N - 1) (C - 1), .int .u32 ((S - 2 ^ c0 : Nat) : Int)] u (GetsL (R, 0) u)))
    (HA : Hid (Tells 13 #[.agg #[.int .u32 x, .int .u32 y], .int .u32 (S : Int)] (.int .u32 a0)))
    (HH : Hid (∀ k : Nat, Tells 27 #[.int .u32 a0, .int .i64 (k : Int)] (.bool (hb k))))
    (HF : Hid (∀ k : Nat, k < c0 → hb k = true → ∀ u : World, Below w.heap.size w u → Calls Tryd.prog 21 #[.slice rest (N - 1) (C - 1), .int .u32 ((S - 2 ^ k : Nat) : Int)] u (Said (.bool false) u)))
    (HO : Hid (∀ k : Nat, k < 8 → hb k = true → bits .andNot .u32 (S : Int) (2 ^ k) = ((S - 2 ^ k : Nat) : Int))) (hbc : hb c0 = true) :
    Calls Tryd.prog 7 #[.slice (some ad) M C, .int .u32 (S : Int)] w (Said (.bool true) w) := by
  have HX := Lib.hid (fun (u : World) (h : Below w.heap.size w u) => show u.cell? ad = some (.int .u32 x) ∧ u.cell? ⟨ad.block, ad.off + 1, none⟩ = some (.int .u32 y) from ⟨(h.cell had).trans hx, (h.cell (p := ⟨ad.block, ad.off + 1, none⟩) had).trans hy⟩)
  clear hx hy
  go_enter Tryd.func7, Tryd.ntmps7
  go_wp2_with fail
  refine (HK.out _ HD.out).mono ?_
  rintro e w1 ⟨rfl, B1⟩
  go_wp2_with fail
  rw [show (Value.slice (some ad) 10 C) = .slice (some ad) N C by rw [HT.out]]
  refine (HC.out _ B1).mono ?_
  rintro e w2 ⟨A3, n3, c3, rfl, hn3, hc3, r3, h9⟩
  have B2 := B1.trans (h9.mono B1.size)
  clear h9 B1
  obtain rfl : N = n3 := by rw [hn3, ← hN]; simp [hlen.out]
  clear hn3
  obtain ⟨p, rfl, hp, hcl⟩ := r3.2 (by omega)
  have p0 : w2.cell? p = some (.int .i64 (c0 : Int)) := hcl 0 _ rfl
  go_wp2_with fail
  go_loopw [40] (fun i wr => ∃ k : Nat, k ≤ c0 ∧ i = .int .i64 (k : Int) ∧ Below w.heap.size w wr ∧ Below w2.heap.size w2 wr) (fun i _ => c0 - (intOf i).toNat)
  case atStart => exact ⟨0, by omega, rfl, B2, Below.refl _ _⟩
  case round =>
    clear B2
    obtain ⟨k, hk, rfl, Br, Bq⟩ := hrel
    by_cases hlt : k < c0
    · have g0 : (0 : Int) < 2 ^ k := two_pos k
      have g1 : (2 : Int) ^ k ≤ 256 := two_le8 (by omega)
      have hw : IntKind.u32.wrap ((2 : Int) ^ k) = 2 ^ k := wrap_two (by omega)
      have HHk := Lib.hid (HH.out k)
      cases hv : hb k with
      | true =>
        have HFk := Lib.hid (HF.out k hlt hv)
        have ho := HO.out k (by omega) hv
        rw [hv] at HHk
        go_upto_region 11 with fail
        have D1 := Br.drew
        have E1 := Bq.drew
        have k1 := HX.out _ D1
        clear Br Bq
        go_region_held3 (fun w' => w'.cell? ad = some (.int .u32 x) ∧ w'.cell? ⟨ad.block, ad.off + 1, none⟩ = some (.int .u32 y))
          (first | exact k4 | exact k3 | exact k2 | exact k1)
          (first
            | (go_at_call 21; (with_reducible refine (HFk.out _ D3).mono ?_); rintro e w6 ⟨rfl, h9⟩; have D4 := D3.trans (h9.mono D3.size); have k4 := HX.out _ D4; have E4 := E3.trans (h9.mono E3.size); clear h9)
            | (go_at_call 27; (with_reducible refine (HHk.out _).mono ?_); rintro e w5 ⟨rfl, h9⟩; have D3 := D2.trans (h9.mono D2.size); have k3 := HX.out _ D3; have E3 := E2.trans (h9.mono E2.size); clear h9)
            | (go_at_call 13; (with_reducible refine (HA.out _).mono ?_); rintro e w4 ⟨rfl, h9⟩; have D2 := D1.trans (h9.mono D1.size); have k2 := HX.out _ D2; have E2 := E1.trans (h9.mono E1.size); clear h9))
        have D := Lib.hid D4
        have E := Lib.hid E4
        clear D1 D2 D3 E1 E2 E3 k1 k2 k3 D4 E4 k4 hw g0 g1 hr ho
        go_wp2
        go_roundw
        case rel => exact ⟨k + 1, by omega, by go_num, D.out, E.out⟩
        case measure => simp [intOf]; omega
      | false =>
        rw [hv] at HHk
        go_upto_region 11 with fail
        have D1 := Br.drew
        have E1 := Bq.drew
        clear Br Bq
        refine wp_region_held_drew (S := fun w' => w'.cell? ad = some (.int .u32 x) ∧ w'.cell? ⟨ad.block, ad.off + 1, none⟩ = some (.int .u32 y)) (by kernel_rfl) (HX.out _ D1) (fun hS => ?_)
        refine wpAnyH_take (i := 0) (v := .slice (some ad) N C) rfl (by kernel_rfl) (by kernel_rfl) (by kernel_rfl) (fun _ _ _ h => h) (Or.inl ⟨by kernel_rfl, fun u hSw => (by go_simp)⟩) hS ?_
        try simp only [Act.put]
        refine wpAnyH_take (i := 1) (v := .pointer (some ad)) rfl (by kernel_rfl) (by kernel_rfl) (by kernel_rfl) (fun _ _ _ h => h) (Or.inl ⟨by kernel_rfl, fun u hSw => (by go_simp)⟩) hS ?_
        try simp only [Act.put]
        refine wpAnyH_take (i := 2) (v := .agg #[.int .u32 x, .int .u32 y]) rfl (by kernel_rfl) (by kernel_rfl) (by kernel_rfl) (fun _ _ _ h => h) (Or.inl ⟨by kernel_rfl, fun u hSw => (by have q0 := hSw.1; have q1 := hSw.2; go_simp)⟩) hS ?_
        try simp only [Act.put]
        refine wpAnyH_take (i := 3) (v := .int .u32 (S : Int)) rfl (by kernel_rfl) (by kernel_rfl) (by kernel_rfl) (fun _ _ _ h => h) (Or.inl ⟨by kernel_rfl, fun u hSw => (by go_simp)⟩) hS ?_
        try simp only [Act.put]
        refine wpAnyH_take (i := 5) (v := .int .i64 (k : Int)) rfl (by kernel_rfl) (by kernel_rfl) (by kernel_rfl) (fun _ _ _ h => h) (Or.inl ⟨by kernel_rfl, fun u hSw => (by go_simp)⟩) hS ?_
        try simp only [Act.put]
        refine wpAnyH_ready (rs := [4]) (by kernel_rfl) (by simp) ?_
        refine AllReadyH.cons rfl (fun K hK => ?_) AllReadyH.nil
        go_simp
        refine (HA.out _).mono ?_
        rintro e w4 ⟨rfl, h9⟩
        have D2 := D1.trans (h9.mono D1.size)
        have E2 := E1.trans (h9.mono E1.size)
        refine hK.out _ _ (HX.out _ D2) (fun hS => ?_)
        clear hK K
        try simp only [Act.put]
        clear h9 D1 E1
        refine wpAnyH_ready (rs := [6]) (by kernel_rfl) (by simp) ?_
        refine AllReadyH.cons rfl (fun K hK => ?_) AllReadyH.nil
        go_simp
        refine (HHk.out _).mono ?_
        rintro e w5 ⟨rfl, h9⟩
        have D3 := D2.trans (h9.mono D2.size)
        have E3 := E2.trans (h9.mono E2.size)
        refine hK.out _ _ (HX.out _ D3) (fun hS => ?_)
        clear hK K
        try simp only [Act.put]
        clear h9 D2 E2
        refine wpAnyH_take (i := 7) (v := .bool false) rfl (by kernel_rfl) (by kernel_rfl) (by kernel_rfl) (fun _ _ _ h => h) (Or.inl ⟨by kernel_rfl, fun u hSw => (by go_simp)⟩) hS ?_
        try simp only [Act.put]
        refine wpAnyH_take (i := 8) (v := undef) rfl (by kernel_rfl) (by kernel_rfl) (by kernel_rfl) (fun _ _ _ h => h) (Or.inr ⟨by kernel_rfl, rfl⟩) hS ?_
        try simp only [Act.put]
        refine wpAnyH_take (i := 9) (v := undef) rfl (by kernel_rfl) (by kernel_rfl) (by kernel_rfl) (fun _ _ _ h => h) (Or.inr ⟨by kernel_rfl, rfl⟩) hS ?_
        try simp only [Act.put]
        refine wpAnyH_take (i := 10) (v := undef) rfl (by kernel_rfl) (by kernel_rfl) (by kernel_rfl) (fun _ _ _ h => h) (Or.inr ⟨by kernel_rfl, rfl⟩) hS ?_
        try simp only [Act.put]
        refine wpAnyH_take (i := 11) (v := undef) rfl (by kernel_rfl) (by kernel_rfl) (by kernel_rfl) (fun _ _ _ h => h) (Or.inr ⟨by kernel_rfl, rfl⟩) hS ?_
        try simp only [Act.put]
        refine wpAnyH_take (i := 12) (v := undef) rfl (by kernel_rfl) (by kernel_rfl) (by kernel_rfl) (fun _ _ _ h => h) (Or.inr ⟨by kernel_rfl, rfl⟩) hS ?_
        try simp only [Act.put]
        refine wpAnyH_take (i := 13) (v := undef) rfl (by kernel_rfl) (by kernel_rfl) (by kernel_rfl) (fun _ _ _ h => h) (Or.inr ⟨by kernel_rfl, rfl⟩) hS ?_
        try simp only [Act.put]
        refine wpAnyH_take (i := 14) (v := undef) rfl (by kernel_rfl) (by kernel_rfl) (by kernel_rfl) (fun _ _ _ h => h) (Or.inr ⟨by kernel_rfl, rfl⟩) hS ?_
        try simp only [Act.put]
        refine wpAnyH_take (i := 15) (v := .bool false) rfl (by kernel_rfl) (by kernel_rfl) (by kernel_rfl) (fun _ _ _ h => h) (Or.inl ⟨by kernel_rfl, fun u hSw => (by go_simp)⟩) hS ?_
        try simp only [Act.put]
        refine wpAnyH_done (by kernel_rfl) ?_ _
        try simp only [Act.put]
        have D := Lib.hid D3
        have E := Lib.hid E3
        clear D3 E3 hw g0 g1 hr hS
        go_simp
        go_wp2
        go_roundw
        case rel => exact ⟨k + 1, by omega, by go_num, D.out, E.out⟩
        case measure => simp [intOf]; omega
    · obtain rfl : c0 = k := by omega
      have HY := Lib.hid (fun (u : World) (h : Below w2.heap.size w2 u) => (h.cell hp).trans p0)
      have HL := Lib.hid (fun (u : World) (h : Below w2.heap.size w2 u) (i : Nat) (z : Int) (hz : R[i]? = some z) => show u.cell? (p.add (i + 1)) = some (.int .i64 z) from (h.cell (p := p.add (i + 1)) (by rw [block_of_add]; exact hp)).trans (hcl (i + 1) (.int .i64 z) (by simp [vs, hz])))
      have hN2 : (N : Int) - 1 = (n : Int) := by omega
      have hnn : n ≤ 10 := by omega
      have g0 : (0 : Int) < 2 ^ c0 := two_pos c0
      have g1 : (2 : Int) ^ c0 ≤ 256 := two_le8 (by omega)
      have hw : IntKind.u32.wrap ((2 : Int) ^ c0) = 2 ^ c0 := wrap_two (by omega)
      have ho := HO.out c0 hc0 hbc
      clear hcl p0
      go_upto_region 14 with fail
      have D1 := Br.drew
      have E1 := Bq.drew
      have k1 := HY.out _ E1
      clear Br Bq
      go_region_held3 (fun w' => w'.cell? p = some (.int .i64 (c0 : Int)))
        (first | exact k2 | exact k1)
        (first
          | (go_at_call 19; (with_reducible refine (HC2.out _ D1).mono ?_); rintro e w4 ⟨A4, n4, c4, rfl, hn4, hc4, r4, h9⟩; obtain rfl : n = n4 := (hn4.trans hlen.out).symm; clear hn4; have D2 := D1.trans (h9.mono D1.size); have E2 := E1.trans (h9.mono E1.size); have k2 := HY.out _ E2; clear h9))
      have D := Lib.hid D2
      have HZ := Lib.hid (fun (i : Nat) (z : Int) (hz : R[i]? = some z) => show w4.cell? (p.add (i + 1)) = some (.int .i64 z) from HL.out _ E2 i z hz)
      clear D1 D2 E1 E2 k1 k2 hw g0 g1 hr ho HY HL
      have R4 := Lib.hid r4
      clear r4 r3
      go_wp2_with fail
      go_loopw [84] (fun i wr => ∃ k q : Nat, k ≤ n ∧ i = .int .i64 k ∧ wr = w4.drewN q) (fun i _ => n - (intOf i).toNat)
      case atStart => exact ⟨0, 0, Nat.zero_le _, rfl, rfl⟩
      case round =>
        obtain ⟨k, q, hk, rfl, rfl⟩ := hrel
        by_cases hlt : k < n
        · obtain ⟨ad', v', rfl, _, hx', hc'⟩ := R4.out.at_ hlt
          obtain ⟨z, hz', rfl⟩ := vs_at hx'
          have hp' := HZ.out k z hz'
          have hp2 := hp'
          rw [show p.add (k + 1) = p.add (0 + (k + 1)) by rw [Nat.zero_add], add_past p 0 k] at hp2
          have hp2 : w4.cell? ⟨p.block, p.off + (k + 1), none⟩ = some (.int .i64 z) := hp2
          have j0 : (0 : Int) ≤ (k : Int) := by omega
          have j1 : (k : Int) < (n : Int) := by omega
          have j2 : (0 : Int) ≤ (k : Int) + 1 := by omega
          have j3 : (k : Int) + 1 < (N : Int) := by omega
          have j4 : ((k : Int) + 1).toNat = k + 1 := by omega
          have j5 : IntKind.i64.wrap ((k : Int) + 1) = (k : Int) + 1 := IntWalk.i64_in _ (by omega)
          clear hx' hz'
          go_wp2_with fail
          go_quiet (fail)
          clear j5 j4
          go_wp2
          go_roundw
          case rel => exact ⟨k + 1, q + nq, by omega, by go_num, rfl⟩
          case measure => simp [intOf]; omega
        · obtain rfl : k = n := by omega
          go_wp2
          go_ret
          exact ⟨rfl, below_drewN D.out q⟩

end Go.Proofs.YtcdlhfhachpcdaaDoor
