/-
  The contract of the library's division of two words by one. No statement is proved here.
-/
import Derived.Test.YtfgabmelmopgdaaWd
import Derived.Deep.DeepCutAuto
import Derived.Deep.CutBlock
import Derived.Outline
import Derived.Laws.ShiftsVar
namespace Go.Proofs.Ytfgabmelmopgdaa
open Go.RowKit

set_option maxHeartbeats 2000000 in
set_option maxRecDepth 100000 in
theorem div64_zero (lo y q r : Nat) (hlo : lo < 18446744073709551616) (hy0 : 0 < y) (hy : y < 18446744073709551616) (hq : lo / y = q) (hr : lo % y = r) (w : World) :
    Calls Try.prog 96 #[.int .u64 0, .int .u64 (lo : Int), .int .u64 (y : Int)] w (Ans (.tuple #[.int .u64 (q : Int), .int .u64 (r : Int)]) w) := by
  have e0 : ((y : Int) == 0) = false := by simp; omega
  have e1 : ¬ y = 0 := by omega
  have e2 : (lo : Int).tdiv (y : Int) = (q : Int) := by rw [← hq]; rfl
  have e3 : (lo : Int).tmod (y : Int) = (r : Int) := by rw [← hr]; rfl
  have e4 : IntKind.u64.wrap (q : Int) = (q : Int) := by rw [IntKind.wrap_u64]; have : lo / y ≤ lo := Nat.div_le_self _ _; omega
  have H := Lib.hid (And.intro hlo hy0)
  clear hq hr hlo hy0 hy
  go_enter Try.func96, Try.ntmps96
  go_wp2
  go_quiet (fail)
  go_wp2
  go_ret2
  exact ⟨rfl, below_drewN (Below.refl _ _) _⟩

set_option maxHeartbeats 4000000 in
set_option maxRecDepth 100000 in
theorem div64_big (hi lo y q r : Nat) (hlo : lo < 18446744073709551616) (hy0 : 0 < y) (hy : y < 18446744073709551616) (h0 : 0 < hi) (hhi : hi < y)
    (hq : (hi * 18446744073709551616 + lo) / y = q) (hr : (hi * 18446744073709551616 + lo) % y = r) (w : World) :
    Calls Try.prog 96 #[.int .u64 (hi : Int), .int .u64 (lo : Int), .int .u64 (y : Int)] w (Ans (.tuple #[.int .u64 (q : Int), .int .u64 (r : Int)]) w) := by
  have HL := Lib.hid (fun u => lead_any y hy hy0 u)
  have HQR := Lib.hid (And.intro hq hr)
  have e0 : ((y : Int) == 0) = false := by simp; omega
  have e1 : decide (y ≤ hi) = false := by simp; omega
  have e2 : ((hi : Int) == 0) = false := by simp; omega
  clear hy hy0 h0 hq hr
  go_enter Try.func96, Try.ntmps96
  go_wp2_with fail
  refine (HL.out _).mono ?_
  rintro e w' ⟨s, hs, hl1, hl2, rfl, rfl⟩
  have hs' : (s : Int) ≤ 63 := by omega
  obtain ⟨Y, hYe⟩ : ∃ Y, y * 2 ^ s = Y := ⟨_, rfl⟩
  rw [hYe] at hl1 hl2
  have hY : IntKind.u64.wrap ((y : Int) * 2 ^ s) = (Y : Int) := by
    rw [show (y : Int) * 2 ^ s = ((y * 2 ^ s : Nat) : Int) by simp, hYe, IntKind.wrap_u64]
    omega
  have HY := Lib.hid hYe
  clear hYe
  have hYh : (Y : Int) / 4294967296 = ((Y / 4294967296 : Nat) : Int) := by omega
  have hYl := lowN Y hl2
  obtain ⟨h, hh⟩ : ∃ h, Y / 4294967296 = h := ⟨_, rfl⟩
  obtain ⟨l, hl⟩ : ∃ l, Y % 4294967296 = l := ⟨_, rfl⟩
  rw [hh] at hYh
  rw [hl] at hYl
  have hh0 : 2147483648 ≤ h := by omega
  have hh1 : h < 4294967296 := by omega
  have hl0 : l < 4294967296 := by omega
  have hYhl : Y = h * 4294967296 + l := by omega
  -- the number, shifted
  obtain ⟨hsh, hbl⟩ := shifted (hi := hi) hs hlo
  obtain ⟨b, hb⟩ : ∃ b, lo / 2 ^ (64 - s) = b := ⟨_, rfl⟩
  obtain ⟨L, hL⟩ : ∃ L, lo * 2 ^ s % 18446744073709551616 = L := ⟨_, rfl⟩
  obtain ⟨A, hA⟩ : ∃ A, hi * 2 ^ s = A := ⟨_, rfl⟩
  have hor := shifted_or (hi := hi) hbl
  rw [hb, hA] at hor
  rw [hb, hL, hA] at hsh
  obtain ⟨u, hu⟩ : ∃ u, A + b = u := ⟨_, rfl⟩
  rw [hu] at hor hsh
  have huY := shifted_lt hhi hlo HY.out hsh
  have hdiv := shifted_div HY.out hsh
  rw [HQR.out.1, HQR.out.2] at hdiv
  have hwA : IntKind.u64.wrap ((hi : Int) * 2 ^ s) = (A : Int) := by
    rw [show (hi : Int) * 2 ^ s = ((hi * 2 ^ s : Nat) : Int) by simp, hA, IntKind.wrap_u64]
    omega
  have hwb : (lo : Int) / 2 ^ (64 - s) = (b : Int) := by rw [← hb]; simp
  have hwo : bits .or .u64 (A : Int) (b : Int) = (u : Int) := by rw [bits_or_u64_nat A b (by omega) (by omega), hor]
  have hwL : IntKind.u64.wrap ((lo : Int) * 2 ^ s) = (L : Int) := by
    rw [show (lo : Int) * 2 ^ s = ((lo * 2 ^ s : Nat) : Int) by simp, IntKind.wrap_u64, ← hL]
    simp
  have hL64 : L < 18446744073709551616 := by rw [← hL]; exact Nat.mod_lt _ (by decide)
  obtain ⟨d1, hd1⟩ : ∃ d, L / 4294967296 = d := ⟨_, rfl⟩
  obtain ⟨d0, hd0⟩ : ∃ d, L % 4294967296 = d := ⟨_, rfl⟩
  have hwd1 : (L : Int) / 4294967296 = (d1 : Int) := by omega
  have hwd0 := lowN L hL64
  rw [hd0] at hwd0
  have hd1b : d1 < 4294967296 := by omega
  have hd0b : d0 < 4294967296 := by omega
  have hLd : L = d1 * 4294967296 + d0 := by omega
  -- the first digit's guess
  have hEi := est_init hh0 hl0 hd1b (by rw [← hYhl]; exact huY)
  obtain ⟨qi, hqi⟩ : ∃ q, u / h = q := ⟨_, rfl⟩
  obtain ⟨ri, hri⟩ : ∃ r, u % h = r := ⟨_, rfl⟩
  rw [hqi, hri] at hEi
  have hwq : (u : Int).tdiv (h : Int) = (qi : Int) := by rw [← hqi]; rfl
  have hwq2 : IntKind.u64.wrap (qi : Int) = (qi : Int) := by rw [IntKind.wrap_u64]; have := hEi.le; omega
  have hrib : ri < 4294967296 := by have := Nat.mod_lt u (show 0 < h by omega); omega
  have hqh : (qi : Int) * (h : Int) = ((qi * h : Nat) : Int) := by simp
  have hwqh : IntKind.u64.wrap ((qi : Int) * (h : Int)) = (qi : Int) * (h : Int) := by
    rw [hqh, IntKind.wrap_u64]
    have := hEi.sum
    omega
  have hwri : IntKind.u64.wrap ((u : Int) - (qi : Int) * (h : Int)) = (ri : Int) := by
    rw [hqh, IntKind.wrap_u64]
    have := hEi.sum
    omega
  have hne : ¬ h = 0 := by omega
  have HF := Lib.hid (And.intro (And.intro hh0 hh1) (And.intro hl0 (And.intro (show 0 < h * 4294967296 + l by omega) hYhl)))
  have HDd1 := Lib.hid hd1b
  have HDd0 := Lib.hid hd0b
  have HUu := Lib.hid (show u < h * 4294967296 + l by rw [← hYhl]; exact huY)
  have HI := Lib.hid (And.intro hEi hrib)
  have HDIV := Lib.hid hdiv
  have HLd := Lib.hid hLd
  have HYL := Lib.hid hl2
  clear hqh hh hl hb hL hA hor hu hsh hbl hd1 hd0 hqi hri hhi huY hdiv hlo hl1 hl2 hh0 hh1 hl0 hYhl hL64 hd1b hd0b hLd hEi hrib
  obtain ⟨T1, hT1⟩ : ∃ T, (u * 4294967296 + d1) / (h * 4294967296 + l) = T := ⟨_, rfl⟩
  have HT1 := Lib.hid hT1
  clear hT1
  go_upto_block 0 with fail
  go_cut [15] (fun s15 wx => s15 = .int .u64 (T1 : Int) ∧ w = wx)
  case first =>
    go_wp2
    go_loop [15, 16] (fun a b => ∃ q r : Nat, a = .int .u64 (q : Int) ∧ b = .int .u64 (r : Int) ∧ Est u d1 h l q r ∧ r < 4294967296) (fun a _ => (intOf a).toNat)
    case atStart => exact ⟨qi, ri, rfl, rfl, HI.out.1, HI.out.2⟩
    case round =>
      obtain ⟨q, r, rfl, rfl, hE, hrB⟩ := hrel
      by_cases hc : 4294967296 ≤ q ∨ r * 4294967296 + d1 < q * l
      · obtain ⟨hq1, hqb, hE', hT⟩ := est_down HF.out.2.2.1 HF.out.2.1 HDd1.out HUu.out hE hc
        obtain ⟨q', hq'⟩ : ∃ q', q - 1 = q' := ⟨_, rfl⟩
        obtain ⟨r', hr'⟩ : ∃ r', r + h = r' := ⟨_, rfl⟩
        have hql := hE.le
        have hw1 : IntKind.u64.wrap ((q : Int) - 1) = (q' : Int) := by rw [IntKind.wrap_u64]; omega
        have hw2 : IntKind.u64.wrap ((r : Int) + (h : Int)) = (r' : Int) := by rw [IntKind.wrap_u64]; have := HF.out.1.2; omega
        rw [hq', hr'] at hE' hT
        rw [hq'] at hqb
        have HE := Lib.hid hE'
        have HTT := Lib.hid hT
        have HQ := Lib.hid (And.intro hq1 hq')
        have HRR := Lib.hid (show r' < 4294967296 ∨ 4294967296 ≤ r' by omega)
        clear hE hE' hT hq' hr' hql hqb hq1
        by_cases hqB : 4294967296 ≤ q
        · have hqI : (4294967296 : Int) ≤ (q : Int) := by omega
          clear hc
          by_cases hrr : 4294967296 ≤ r'
          · have hrI : (4294967296 : Int) ≤ (r' : Int) := by omega
            have HX := Lib.hid (HTT.out hrr)
            clear hqB hrr
            go_wp2
            go_meet
            exact ⟨by rw [HX.out, HT1.out], rfl⟩
          · have hrI : decide ((4294967296 : Int) ≤ (r' : Int)) = false := decide_eq_false (by omega)
            have HX := Lib.hid hrr
            clear hqB hrr
            go_wp2
            go_round
            case rel => exact ⟨q', r', rfl, rfl, HE.out, by have := HX.out; omega⟩
            case measure => have := HQ.out; simp [intOf]; omega
        · have hqI : decide ((4294967296 : Int) ≤ (q : Int)) = false := decide_eq_false (by omega)
          have hcc : r * 4294967296 + d1 < q * l := by omega
          obtain ⟨A, hA⟩ : ∃ A, q * l = A := ⟨_, rfl⟩
          obtain ⟨C, hC⟩ : ∃ C, r * 4294967296 + d1 = C := ⟨_, rfl⟩
          have hw3 : IntKind.u64.wrap ((q : Int) * (l : Int)) = (A : Int) := by
            have h5 : q * l ≤ 4294967295 * 4294967295 := Nat.mul_le_mul (by omega) (by have := HF.out.2.1; omega)
            rw [show (q : Int) * (l : Int) = ((q * l : Nat) : Int) by simp, hA, IntKind.wrap_u64]
            omega
          have hw4 : IntKind.u64.wrap (4294967296 * (r : Int)) = 4294967296 * (r : Int) := by rw [IntKind.wrap_u64]; omega
          have hw5 : IntKind.u64.wrap (4294967296 * (r : Int) + (d1 : Int)) = (C : Int) := by rw [IntKind.wrap_u64]; have := HDd1.out; omega
          have hw6 : decide (C < A) = true := by simp; omega
          clear hA hC hc hcc hqB hrB
          by_cases hrr : 4294967296 ≤ r'
          · have hrI : (4294967296 : Int) ≤ (r' : Int) := by omega
            have HX := Lib.hid (HTT.out hrr)
            clear hrr
            go_wp2
            go_meet
            exact ⟨by rw [HX.out, HT1.out], rfl⟩
          · have hrI : decide ((4294967296 : Int) ≤ (r' : Int)) = false := decide_eq_false (by omega)
            have HX := Lib.hid hrr
            clear hrr
            go_wp2
            go_round
            case rel => exact ⟨q', r', rfl, rfl, HE.out, by have := HX.out; omega⟩
            case measure => have := HQ.out; simp [intOf]; omega
      · have hqI : decide ((4294967296 : Int) ≤ (q : Int)) = false := decide_eq_false (by omega)
        have hcc : q * l ≤ r * 4294967296 + d1 := by omega
        have HX := Lib.hid (est_done HF.out.2.2.1 hE hcc)
        obtain ⟨A, hA⟩ : ∃ A, q * l = A := ⟨_, rfl⟩
        obtain ⟨C, hC⟩ : ∃ C, r * 4294967296 + d1 = C := ⟨_, rfl⟩
        have hw3 : IntKind.u64.wrap ((q : Int) * (l : Int)) = (A : Int) := by
          have h5 : q * l ≤ 4294967295 * 4294967295 := Nat.mul_le_mul (by omega) (by have := HF.out.2.1; omega)
          rw [show (q : Int) * (l : Int) = ((q * l : Nat) : Int) by simp, hA, IntKind.wrap_u64]
          omega
        have hw4 : IntKind.u64.wrap (4294967296 * (r : Int)) = 4294967296 * (r : Int) := by rw [IntKind.wrap_u64]; omega
        have hw5 : IntKind.u64.wrap (4294967296 * (r : Int) + (d1 : Int)) = (C : Int) := by rw [IntKind.wrap_u64]; have := HDd1.out; omega
        have hw6 : decide (C < A) = false := by simp; omega
        clear hA hC hc hcc hE hrB
        go_wp2
        go_meet
        exact ⟨by rw [HX.out, HT1.out], rfl⟩

  case rest =>
    obtain ⟨rfl, rfl⟩ := hcut
    clear hwq hwq2 hwqh hwri HI
    have hYe := HF.out.2.2.2
    have hY0 : 0 < Y := by rw [hYe]; exact HF.out.2.2.1
    have hT1e := HT1.out
    rw [← hYe] at hT1e
    obtain ⟨V, hV⟩ : ∃ V, (u * 4294967296 + d1) % Y = V := ⟨_, rfl⟩
    have hVY : V < Y := by rw [← hV]; exact Nat.mod_lt _ hY0
    have hdm := Nat.div_add_mod (u * 4294967296 + d1) Y
    rw [hT1e, hV, Nat.mul_comm] at hdm
    obtain ⟨P1, hP1⟩ : ∃ P, T1 * Y = P := ⟨_, rfl⟩
    rw [hP1] at hdm
    have hwV : IntKind.u64.wrap (IntKind.u64.wrap (IntKind.u64.wrap ((u : Int) * 4294967296) + (d1 : Int)) - IntKind.u64.wrap ((T1 : Int) * (Y : Int))) = (V : Int) := by
      rw [show (T1 : Int) * (Y : Int) = ((T1 * Y : Nat) : Int) by simp, hP1]
      simp only [IntKind.wrap_u64]
      have := HYL.out
      omega
    have hEi := est_init HF.out.1.1 HF.out.2.1 HDd0.out (show V < h * 4294967296 + l by rw [← hYe]; exact hVY)
    obtain ⟨qj, hqj⟩ : ∃ q, V / h = q := ⟨_, rfl⟩
    obtain ⟨rj, hrj⟩ : ∃ r, V % h = r := ⟨_, rfl⟩
    rw [hqj, hrj] at hEi
    have hwq : (V : Int).tdiv (h : Int) = (qj : Int) := by rw [← hqj]; rfl
    have hwq2 : IntKind.u64.wrap (qj : Int) = (qj : Int) := by rw [IntKind.wrap_u64]; have := hEi.le; omega
    have hrjb : rj < 4294967296 := by have := Nat.mod_lt V (show 0 < h by have := HF.out.1.1; omega); have := HF.out.1.2; omega
    have hqh : (qj : Int) * (h : Int) = ((qj * h : Nat) : Int) := by simp
    have hV64 : V < 18446744073709551616 := by have := HYL.out; omega
    have hwqh : IntKind.u64.wrap ((qj : Int) * (h : Int)) = (qj : Int) * (h : Int) := by
      rw [hqh, IntKind.wrap_u64]
      have := hEi.sum
      omega
    have hwri : IntKind.u64.wrap ((V : Int) - (qj : Int) * (h : Int)) = (rj : Int) := by
      rw [hqh, IntKind.wrap_u64]
      have := hEi.sum
      omega
    have HUV := Lib.hid (show V < h * 4294967296 + l by rw [← hYe]; exact hVY)
    have HJ := Lib.hid (And.intro hEi hrjb)
    obtain ⟨T0, hT0⟩ : ∃ T, (V * 4294967296 + d0) / (h * 4294967296 + l) = T := ⟨_, rfl⟩
    have HT0 := Lib.hid hT0
    have HT1b := Lib.hid (digit_lt HF.out.2.2.1 HDd1.out HUu.out)
    have HT0b := Lib.hid (digit_lt HF.out.2.2.1 HDd0.out HUV.out)
    rw [HT1.out] at HT1b
    rw [hT0] at HT0b
    have htd := two_digits (u := u) (d1 := d1) (d0 := d0) hY0
    rw [hT1e, hV, ← HLd.out, HDIV.out.1] at htd
    have hT0e := hT0
    rw [← hYe] at hT0e
    rw [hT0e] at htd
    have HTD := Lib.hid htd
    have HP := Lib.hid (And.intro hY0 hT0e)
    clear hqh hEi hrjb hV hVY hdm hP1 hT1e hYe hY0 hqj hrj hT0 htd hT0e hV64
    go_upto_block 2 with fail
    go_cut [18] (fun s18 wx => s18 = .int .u64 (T0 : Int) ∧ w = wx)
    case first =>
      go_wp2
      go_loop [18, 16] (fun a b => ∃ q r : Nat, a = .int .u64 (q : Int) ∧ b = .int .u64 (r : Int) ∧ Est V d0 h l q r ∧ r < 4294967296) (fun a _ => (intOf a).toNat)
      case atStart => exact ⟨qj, rj, rfl, rfl, HJ.out.1, HJ.out.2⟩
      case round =>
        obtain ⟨q, r, rfl, rfl, hE, hrB⟩ := hrel
        by_cases hc : 4294967296 ≤ q ∨ r * 4294967296 + d0 < q * l
        · obtain ⟨hq1, hqb, hE', hT⟩ := est_down HF.out.2.2.1 HF.out.2.1 HDd0.out HUV.out hE hc
          obtain ⟨q', hq'⟩ : ∃ q', q - 1 = q' := ⟨_, rfl⟩
          obtain ⟨r', hr'⟩ : ∃ r', r + h = r' := ⟨_, rfl⟩
          have hql := hE.le
          have hw1 : IntKind.u64.wrap ((q : Int) - 1) = (q' : Int) := by rw [IntKind.wrap_u64]; omega
          have hw2 : IntKind.u64.wrap ((r : Int) + (h : Int)) = (r' : Int) := by rw [IntKind.wrap_u64]; have := HF.out.1.2; omega
          rw [hq', hr'] at hE' hT
          rw [hq'] at hqb
          have HE := Lib.hid hE'
          have HTT := Lib.hid hT
          have HQ := Lib.hid (And.intro hq1 hq')
          have HRR := Lib.hid (show r' < 4294967296 ∨ 4294967296 ≤ r' by omega)
          clear hE hE' hT hq' hr' hql hqb hq1
          by_cases hqB : 4294967296 ≤ q
          · have hqI : (4294967296 : Int) ≤ (q : Int) := by omega
            clear hc
            by_cases hrr : 4294967296 ≤ r'
            · have hrI : (4294967296 : Int) ≤ (r' : Int) := by omega
              have HX := Lib.hid (HTT.out hrr)
              clear hqB hrr
              go_wp2
              go_meet
              exact ⟨by rw [HX.out, HT0.out], rfl⟩
            · have hrI : decide ((4294967296 : Int) ≤ (r' : Int)) = false := decide_eq_false (by omega)
              have HX := Lib.hid hrr
              clear hqB hrr
              go_wp2
              go_round
              case rel => exact ⟨q', r', rfl, rfl, HE.out, by have := HX.out; omega⟩
              case measure => have := HQ.out; simp [intOf]; omega
          · have hqI : decide ((4294967296 : Int) ≤ (q : Int)) = false := decide_eq_false (by omega)
            have hcc : r * 4294967296 + d0 < q * l := by omega
            obtain ⟨A, hA⟩ : ∃ A, q * l = A := ⟨_, rfl⟩
            obtain ⟨C, hC⟩ : ∃ C, r * 4294967296 + d0 = C := ⟨_, rfl⟩
            have hw3 : IntKind.u64.wrap ((q : Int) * (l : Int)) = (A : Int) := by
              have h5 : q * l ≤ 4294967295 * 4294967295 := Nat.mul_le_mul (by omega) (by have := HF.out.2.1; omega)
              rw [show (q : Int) * (l : Int) = ((q * l : Nat) : Int) by simp, hA, IntKind.wrap_u64]
              omega
            have hw4 : IntKind.u64.wrap (4294967296 * (r : Int)) = 4294967296 * (r : Int) := by rw [IntKind.wrap_u64]; omega
            have hw5 : IntKind.u64.wrap (4294967296 * (r : Int) + (d0 : Int)) = (C : Int) := by rw [IntKind.wrap_u64]; have := HDd0.out; omega
            have hw6 : decide (C < A) = true := by simp; omega
            clear hA hC hc hcc hqB hrB
            by_cases hrr : 4294967296 ≤ r'
            · have hrI : (4294967296 : Int) ≤ (r' : Int) := by omega
              have HX := Lib.hid (HTT.out hrr)
              clear hrr
              go_wp2
              go_meet
              exact ⟨by rw [HX.out, HT0.out], rfl⟩
            · have hrI : decide ((4294967296 : Int) ≤ (r' : Int)) = false := decide_eq_false (by omega)
              have HX := Lib.hid hrr
              clear hrr
              go_wp2
              go_round
              case rel => exact ⟨q', r', rfl, rfl, HE.out, by have := HX.out; omega⟩
              case measure => have := HQ.out; simp [intOf]; omega
        · have hqI : decide ((4294967296 : Int) ≤ (q : Int)) = false := decide_eq_false (by omega)
          have hcc : q * l ≤ r * 4294967296 + d0 := by omega
          have HX := Lib.hid (est_done HF.out.2.2.1 hE hcc)
          obtain ⟨A, hA⟩ : ∃ A, q * l = A := ⟨_, rfl⟩
          obtain ⟨C, hC⟩ : ∃ C, r * 4294967296 + d0 = C := ⟨_, rfl⟩
          have hw3 : IntKind.u64.wrap ((q : Int) * (l : Int)) = (A : Int) := by
            have h5 : q * l ≤ 4294967295 * 4294967295 := Nat.mul_le_mul (by omega) (by have := HF.out.2.1; omega)
            rw [show (q : Int) * (l : Int) = ((q * l : Nat) : Int) by simp, hA, IntKind.wrap_u64]
            omega
          have hw4 : IntKind.u64.wrap (4294967296 * (r : Int)) = 4294967296 * (r : Int) := by rw [IntKind.wrap_u64]; omega
          have hw5 : IntKind.u64.wrap (4294967296 * (r : Int) + (d0 : Int)) = (C : Int) := by rw [IntKind.wrap_u64]; have := HDd0.out; omega
          have hw6 : decide (C < A) = false := by simp; omega
          clear hA hC hc hcc hE hrB
          go_wp2
          go_meet
          exact ⟨by rw [HX.out, HT0.out], rfl⟩

    case rest =>
      obtain ⟨rfl, rfl⟩ := hcut
      clear hwq hwq2 hwqh hwri hwV
      obtain ⟨R, hR⟩ : ∃ R, (V * 4294967296 + d0) % Y = R := ⟨_, rfl⟩
      have hRY : R < Y := by rw [← hR]; exact Nat.mod_lt _ HP.out.1
      have hdm := Nat.div_add_mod (V * 4294967296 + d0) Y
      rw [HP.out.2, hR, Nat.mul_comm] at hdm
      obtain ⟨P0, hP0⟩ : ∃ P, T0 * Y = P := ⟨_, rfl⟩
      rw [hP0] at hdm
      have hwR : IntKind.u64.wrap (IntKind.u64.wrap (IntKind.u64.wrap ((V : Int) * 4294967296) + (d0 : Int)) - IntKind.u64.wrap ((T0 : Int) * (Y : Int))) = (R : Int) := by
        rw [show (T0 : Int) * (Y : Int) = ((T0 * Y : Nat) : Int) by simp, hP0]
        simp only [IntKind.wrap_u64]
        have := HYL.out
        omega
      have htd := HTD.out
      rw [hR] at htd
      have hrr := HDIV.out.2
      rw [htd.2] at hrr
      have hwr : (R : Int) / 2 ^ s = (r : Int) := by rw [← hrr]; simp
      have hwT : IntKind.u64.wrap (IntKind.u64.wrap ((T1 : Int) * 4294967296) + (T0 : Int)) = (q : Int) := by
        simp only [IntKind.wrap_u64]
        have := HT1b.out
        have := HT0b.out
        omega
      clear hR hRY hdm hP0 htd hrr
      go_wp2
      go_ret2
      exact ⟨rfl, Below.refl _ _⟩

end Go.Proofs.Ytfgabmelmopgdaa
