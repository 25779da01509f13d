/-
  PoolParts' walk, on what is asked of the landed calls (a Door seat: the templates that it stands on are filled by prune.py).
-/
import Derived.Test.YtnckfgnhlnichaaDoorVo
import Derived.Test.YtnckfgnhlnichaaDoorWa
namespace Go.Proofs.YtnckfgnhlnichaaDoor
open Go.RowKit

section
variable (G : World → Prop)
def CListOk : Prop := ∀ (s : Nat) (u : World), s < 256 → G u → Calls Tryd.prog 16 #[.int .u32 (s : Int)] u (Lists u (mem (s : Int)))
def CCountOk : Prop := ∀ (s : Nat) (u : World), s < 256 → G u → Calls Tryd.prog 18 #[.int .u32 (s : Int)] u (Said (.int .i64 ((cardN s : Nat) : Int)) u)
end
set_option maxRecDepth 100000 in
set_option maxHeartbeats 8000000 in
theorem parted_any {G : World → Prop} (hG : Steady G) (hSe : PSetOk G) (hOf : POfOk G) (hCp : PCpusOk G) (hCk : PCheckOk G) (hLi : CListOk G) (hCt : CCountOk G) (A : Option Addr) (n c : Nat) (l : List Nat) (w : World) (hAt : PAt G w A n c l) (hr : rightP l = true) :
    Calls Tryd.prog 8 #[.agg #[.slice A n c]] w (Said (.bool true) w) := by
  obtain ⟨K, B⟩ : Blk (w.alloc (.cells #[.slice A n c] 26)) w.heap.size 26 #[.slice A n c] ∧ Below w.heap.size w (w.alloc (.cells #[.slice A n c] 26)) := ⟨Blk.new _ _ _, (Below.refl _ _).alloc (Nat.le_refl _) _⟩
  have HAt := Lib.hid (fun (u : World) (h : Below w.heap.size w u) => hAt.below hG h)
  have HL := Lib.hid hAt.len
  have HR := Lib.hid hr
  have HSe := Lib.hid hSe
  have HOf := Lib.hid hOf
  have HCp := Lib.hid hCp
  have HCk := Lib.hid hCk
  have HLi := Lib.hid hLi
  have HCt := Lib.hid hCt
  have HN4 : Hid (n ≤ 4) := Lib.hid (by have := (right_parts8 hr).2.1; have := hAt.len; omega)
  have HB := Lib.hid (And.intro K B)
  clear hG hSe hOf hCp hCk hLi hCt hAt hr K B
  go_enter Tryd.func8, Tryd.ntmps8
  go_wp2_with fail
  go_loopw [3, 13] (fun v i wr => ∃ k : Nat, k ≤ n ∧ i = .int .i64 (k : Int) ∧ v = .int .i64 ((sumK l k : Nat) : Int) ∧ Blk wr w.heap.size 26 #[.slice A n c] ∧ Below w.heap.size w wr) (fun _ i _ => n - (intOf i).toNat)
  case atStart => exact ⟨0, by omega, rfl, rfl, HB.out.1, HB.out.2⟩
  case round =>
    obtain ⟨k, hk, rfl, rfl, K1, Br⟩ := hrel
    by_cases hlt : k < n
    · have k1 := K1.cell 0
      have hx := at_getD (l := l) (k := k) (by rw [HL.out]; exact hlt)
      obtain ⟨x, hxx⟩ : ∃ x, l.getD k 0 = x := ⟨_, rfl⟩
      rw [hxx] at hx
      obtain ⟨x8, x0⟩ := sets_at (right_parts8 HR.out).2.2.1 hx
      have HX := Lib.hid (And.intro hx (And.intro x8 x0))
      have hse := HSe.out A n c l (k : Int) wr (HAt.out _ Br)
      rw [set_at HR.out hx] at hse
      have HSk := Lib.hid hse
      have hsk := sumK_le l k
      have k9 : k < 100 := by have := HN4.out; omega
      have g0 : ((x : Int) == 0) = false := by simp; omega
      have HSum := Lib.hid (sumK_step hx)
      have hcl := card_le x
      clear hse hx hxx x8 x0
      go_wp2_with fail
      refine HSk.out.mono ?_
      rintro e w2 ⟨rfl, h9⟩
      have K2 := K1.below h9 K1.lt
      have B2 := Br.trans (h9.mono Br.size)
      clear h9 K1 Br k1
      go_wp2_with fail
      refine (HLi.out x w2 HX.out.2.1 (HAt.out _ B2).2.2.2.2).mono ?_
      rintro e w3 ⟨A2, c2, rfl, own2, h9⟩
      have K3 := K2.below h9 K2.lt
      have B3 := B2.trans (h9.mono B2.size)
      obtain ⟨d, hd⟩ : ∃ d, (mem (x : Int)).length = d := ⟨_, rfl⟩
      rw [hd] at own2 ⊢
      have R2 := Lib.hid (own_reads' own2)
      have HD := Lib.hid hd
      have HKB := Lib.hid (And.intro K3 B3)
      have d8 : d ≤ 8 := by rw [← hd]; exact hcl
      have hcd : Hid (cardN x = d) := Lib.hid hd
      clear h9 K2 B2 own2 hd K3 B3
      go_wp2_with fail
      go_loopw [22] (fun i wr => ∃ j : Nat, j ≤ d ∧ i = .int .i64 (j : Int) ∧ Below w3.heap.size w3 wr) (fun i _ => d - (intOf i).toNat)
      case atStart => exact ⟨0, by omega, rfl, Below.refl _ _⟩
      case round =>
        obtain ⟨j, hj, rfl, Bj⟩ := hrel
        have K4 := HKB.out.1.below Bj HKB.out.1.lt
        have B4 : Below w.heap.size w wr := HKB.out.2.trans (Bj.mono HKB.out.2.size)
        have k1 := K4.cell 0
        by_cases hjt : j < d
        · obtain ⟨ad, v, rfl, _, hv, hc⟩ := (R2.out.below Bj).at_ hjt
          obtain ⟨z, hz, rfl⟩ := vs_at hv
          obtain ⟨cc, c8, rfl, hbit⟩ := mem_iff.1 (List.mem_of_getElem? hz)
          have hof := HOf.out A n c l (cc : Int) wr (HAt.out _ B4)
          rw [of_at HR.out HX.out.1 c8 hbit] at hof
          have HOj := Lib.hid hof
          clear hof hv hz hbit c8
          go_wp2_with fail
          refine HOj.out.mono ?_
          rintro e w5 ⟨rfl, h9⟩
          have BH := Lib.hid (Bj.trans (h9.mono Bj.size))
          clear h9 Bj K4 B4 k1 hc HOj
          go_wp2
          go_roundw
          case rel => exact ⟨j + 1, by omega, by go_num, BH.out⟩
          case measure => simp [intOf] <;> omega
        · obtain rfl : d = j := by omega
          have HCx := Lib.hid (HCt.out x wr HX.out.2.1 (HAt.out _ B4).2.2.2.2)
          rw [hcd.out] at HCx
          generalize sumK l k = t at *
          clear Bj
          go_wp2_with fail
          refine HCx.out.mono ?_
          rintro e w5 ⟨rfl, h9⟩
          have K5 := Lib.hid (K4.below h9 K4.lt)
          have B5 := Lib.hid (B4.trans (h9.mono B4.size))
          clear h9 K4 B4 k1
          go_wp2
          go_roundw
          case rel => exact ⟨k + 1, by omega, by go_num, by rw [HSum.out, hcd.out]; go_num, K5.out, B5.out⟩
          case measure => simp [intOf] <;> omega
    · obtain rfl : n = k := by omega
      have k1 := K1.cell 0
      have HCx := Lib.hid (HCp.out A n c l wr (HAt.out _ Br))
      have hcn := card_or HR.out
      rw [HL.out] at hcn
      have HCard := Lib.hid hcn
      have hs8 := sumK_le l n
      clear hcn
      go_wp2_with fail
      refine HCx.out.mono ?_
      rintro e w2 ⟨rfl, h9⟩
      have K2 := K1.below h9 K1.lt
      have B2 := Br.trans (h9.mono Br.size)
      clear h9 K1 Br k1
      have k1 := K2.cell 0
      have HCc := Lib.hid (HCt.out (cpusR l) w2 (cpus_lt HR.out) (HAt.out _ B2).2.2.2.2)
      rw [HCard.out] at HCc
      generalize sumK l n = t at *
      go_wp2_with fail
      refine HCc.out.mono ?_
      rintro e w3 ⟨rfl, h9⟩
      have K3 := K2.below h9 K2.lt
      have B3 := B2.trans (h9.mono B2.size)
      clear h9 K2 B2 k1
      have k1 := K3.cell 0
      have hck := HCk.out A n c l w3 (HAt.out _ B3)
      rw [if_pos HR.out] at hck
      have HCkk := Lib.hid hck
      clear hck
      go_wp2_with fail
      refine HCkk.out.mono ?_
      rintro e w4 ⟨rfl, h9⟩
      have BH := Lib.hid (B3.trans (h9.mono B3.size))
      clear h9 K3 B3 k1
      go_wp2
      go_ret
      exact ⟨rfl, BH.out⟩

end Go.Proofs.YtnckfgnhlnichaaDoor
