/-
  The contracts of the document's Takes and without. No statement is proved here.
-/
import Derived.Test.YtldleijocjohgaaDoorGu
import Derived.Test.YtldleijocjohgaaDoorGn
namespace Go.Proofs.YtldleijocjohgaaDoor
open Go.RowKit

/-- what the document says a wish takes: -1 for none -/
def cOf (r : Int × Bool) : Int := if r.2 = true then r.1 else -1
def takesV (w : Wi) (S : Nat) : Int := cOf (bestW w S)

theorem right_small {h s : Int} (hr : rightM (h, s) = true) : h < 256 ∧ s < 256 ∧ 0 < h := by
  unfold rightM at hr
  simp only [Bool.and_eq_true, decide_eq_true_eq] at hr
  exact ⟨hr.1.1, hr.1.2, hr.2⟩

set_option maxRecDepth 100000 in
set_option maxHeartbeats 4000000 in
theorem rtakes_any (x : Wi) (S : Nat) (w : World) (hx : UW x) (hr : rightM (x.h, x.s) = true) (hS : S < 256) :
    Calls Tryd.prog 34 #[.agg #[.int .i64 x.v, .int .i64 x.a, .int .u32 x.h, .int .u32 x.s], .int .u32 (S : Int)] w (Said (.int .i64 (takesV x S)) w) := by
  obtain ⟨v, a, h, s⟩ := x
  have hr : rightM (h, s) = true := hr
  obtain ⟨h8, s8, _⟩ := right_small hr
  have hxh : U32 h := hx.1
  have hxs : U32 s := hx.2
  have hSu : U32 (S : Int) := ⟨by omega, by omega⟩
  have HAL := Lib.hid (fun u => rallows_any h s (S : Int) u hxh hSu)
  have HHS := Lib.hid (fun u => rhas_any ((h.toNat &&& (S : Int).toNat : Nat) : Int) a u (by omega))
  have HLK := Lib.hid (fun u => rlikes_any h s (S : Int) u hxh hxs hSu h8)
  have HNX := Lib.hid (fun u => rnext_any (liN (h, s) (S : Int) : Int) (-1) u (by omega))
  have hg : (rightM (h, s) && decide ((S : Int) < 256)) = true := by rw [hr]; simp; omega
  have e1 : allowsR (h, s) (S : Int) = (h.toNat &&& (S : Int).toNat) := by unfold allowsR; rw [if_pos hg]; rfl
  have e2 : likesR (h, s) (S : Int) = liN (h, s) (S : Int) := by unfold likesR; rw [if_pos hg]
  have HV : Hid (∀ b, hasB ((h.toNat &&& (S : Int).toNat : Nat) : Int) a = b → takesV ⟨v, a, h, s⟩ S = if b = true then a else cOf (nextV (mem (liN (h, s) (S : Int) : Int)) (-1))) := Lib.hid (fun b hb => by
    unfold takesV bestW bestR
    show cOf (if hasB (allowsR (h, s) (S : Int) : Int) a = true then (a, true) else nextV (mem (likesR (h, s) (S : Int) : Int)) (-1)) = _
    rw [e1, e2, hb]
    cases b
    · rfl
    · rfl)
  have K := Blk.new w 43 #[.int .i64 v, .int .i64 a, .int .u32 h, .int .u32 s]
  have B := (Below.refl w.heap.size w).alloc (Nat.le_refl _) (.cells #[.int .i64 v, .int .i64 a, .int .u32 h, .int .u32 s] 43)
  have HX : Hid (∀ u : World, Blk u w.heap.size 43 #[.int .i64 v, .int .i64 a, .int .u32 h, .int .u32 s] → u.cell? ⟨w.heap.size, 1, none⟩ = some (.int .i64 a) ∧ u.cell? ⟨w.heap.size, 2, none⟩ = some (.int .u32 h) ∧ u.cell? ⟨w.heap.size, 3, none⟩ = some (.int .u32 s)) := Lib.hid (fun u hk => ⟨hk.cell 1, hk.cell 2, hk.cell 3⟩)
  generalize takesV ⟨v, a, h, s⟩ S = T at *
  generalize nextV (mem (liN (h, s) (S : Int) : Int)) (-1) = N at *
  generalize liN (h, s) (S : Int) = LI at *
  generalize (h.toNat &&& (S : Int).toNat) = AL at *
  clear hg e1 e2 hr hx hxh hxs hSu h8 s8 hS
  have HK := Lib.hid (And.intro K B)
  clear K B
  go_enter Tryd.func34, Tryd.ntmps34
  cases hb : hasB (AL : Int) a with
  | true =>
    rw [hb] at HHS
    have HV2 := Lib.hid (HV.out true hb)
    clear HV hb
    go_upto_region 1 with fail
    generalize w.alloc _ = V at HK ⊢
    have E0 := (Below.refl V.heap.size V).drew
    have F1 := HK.out.1.below E0 HK.out.1.lt
    have D1 := HK.out.2.drew
    have k1 := HX.out _ F1
    clear E0 HK
    go_region_held3 (fun w' => w'.cell? ⟨w.heap.size, 1, none⟩ = some (.int .i64 a) ∧ w'.cell? ⟨w.heap.size, 2, none⟩ = some (.int .u32 h) ∧ w'.cell? ⟨w.heap.size, 3, none⟩ = some (.int .u32 s))
      (first | exact k2 | exact k1)
      (first
        | (go_at_call 41; (with_reducible refine (HHS.out _).mono ?_); rintro e w5 ⟨rfl, rfl⟩)
        | (go_at_call 40; (with_reducible refine (HAL.out _).mono ?_); rintro e w4 ⟨rfl, h9⟩; have F2 := F1.below h9 F1.lt; have D2 := Lib.hid (D1.trans (h9.mono D1.size)); have k2 := HX.out _ F2; clear h9))
    obtain ⟨z1, z2, z3⟩ := k2
    go_wp2
    go_ret
    exact ⟨retI HV2.out.symm, D2.out⟩
  | false =>
    rw [hb] at HHS
    have HV2 := Lib.hid (HV.out false hb)
    clear HV hb
    go_upto_region 1 with fail
    generalize w.alloc _ = V at HK ⊢
    have E0 := (Below.refl V.heap.size V).drew
    have F1 := HK.out.1.below E0 HK.out.1.lt
    have D1 := HK.out.2.drew
    have k1 := HX.out _ F1
    clear E0 HK
    go_region_held3 (fun w' => w'.cell? ⟨w.heap.size, 1, none⟩ = some (.int .i64 a) ∧ w'.cell? ⟨w.heap.size, 2, none⟩ = some (.int .u32 h) ∧ w'.cell? ⟨w.heap.size, 3, none⟩ = some (.int .u32 s))
      (first | exact k2 | exact k1)
      (first
        | (go_at_call 41; (with_reducible refine (HHS.out _).mono ?_); rintro e w5 ⟨rfl, rfl⟩)
        | (go_at_call 40; (with_reducible refine (HAL.out _).mono ?_); rintro e w4 ⟨rfl, h9⟩; have F2 := F1.below h9 F1.lt; have D2 := Lib.hid (D1.trans (h9.mono D1.size)); have k2 := HX.out _ F2; clear h9))
    obtain ⟨z1, z2, z3⟩ := k2
    clear k1 D1 F1
    have F3 := Lib.hid F2
    clear F2
    go_wp2_with fail
    refine (HLK.out _).mono ?_
    rintro e w6 ⟨rfl, h6⟩
    have D3 := Lib.hid (D2.out.trans (h6.mono D2.out.size))
    clear h6 z1 z2 z3
    go_wp2_with fail
    refine (HNX.out _).mono ?_
    rintro e w7 ⟨rfl, h7⟩
    have D4 := Lib.hid (D3.out.trans (h7.mono D3.out.size))
    clear h7
    obtain ⟨N1, N2⟩ := N
    cases N2 with
    | true =>
      go_wp2
      go_ret
      exact ⟨retI HV2.out.symm, D4.out⟩
    | false =>
      go_wp2
      go_ret
      exact ⟨retI HV2.out.symm, D4.out⟩

end Go.Proofs.YtldleijocjohgaaDoor
