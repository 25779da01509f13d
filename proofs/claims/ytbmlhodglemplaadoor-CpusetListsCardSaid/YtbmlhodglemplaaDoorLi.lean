/-
  CpusetLists' walk: a set is that of its list; Next, again and again, goes through it.
-/
import Derived.Test.YtbmlhodglemplaaDoorOg
namespace Go.Proofs.YtbmlhodglemplaaDoor
open Go.RowKit

def risesB (s : Nat) : Bool := (List.range 8).all fun k => match (mem (s : Int))[k]?, (mem (s : Int))[k + 1]? with
  | some x, some y => decide (x ≤ y)
  | _, _ => true
theorem rises_all : (List.range 256).all risesB = true := by kernel_rfl
theorem rises {s : Nat} (hs : s < 256) (k : Nat) (x y : Int) (hx : (mem (s : Int))[k]? = some x) (hy : (mem (s : Int))[k + 1]? = some y) : x ≤ y := by
  have h1 := of_all 256 rises_all hs
  have hk : k < 8 := by
    have := (List.getElem?_eq_some_iff.1 hx).1
    have := length_memb (s : Int) 8
    unfold mem at *
    omega
  unfold risesB at h1
  have := List.all_eq_true.1 h1 k (List.mem_range.2 hk)
  rw [hx, hy] at this
  simpa using this
theorem goes_at {s x a : Int} {l : List Int} {k : Nat} (h : l[k]? = some x) (hg : goesB s (l.drop k) a = true) : nextV (mem s) a = (x, true) ∧ hasB s x = true ∧ goesB s (l.drop (k + 1)) x = true := by
  rw [drop_at h] at hg
  unfold goesB at hg
  simp at hg
  exact ⟨hg.1.1.1, hg.1.1.2, hg.2⟩
theorem goes_end {s a : Int} {l : List Int} (hg : goesB s (l.drop l.length) a = true) : nextV (mem s) a = (0, false) := by
  rw [List.drop_length] at hg
  unfold goesB at hg
  simpa using hg

set_option maxHeartbeats 8000000 in
set_option maxRecDepth 100000 in
theorem lists_walk (A0 : Option Addr) (n c : Nat) (ss : List Int) (w : World) (hr : Reads w w.heap.size 1 A0 n (us ss)) (hu : ∀ (k : Nat) (x : Int), ss[k]? = some x → U32 x) (hn : n ≤ maxLen) (hG : Gd w)
    (hk : Calls Tryd.prog 10 #[] w fun e w' => e = .returned (.bool true) ∧ Below w.heap.size w w') :
    Calls Tryd.prog 8 #[.slice A0 n c] w fun e w' => e = .returned (.bool true) ∧ Below w.heap.size w w' := by
  unfold maxLen at hn
  have HK := Lib.hid hk
  have HR := Lib.hid hr
  have HU := Lib.hid hu
  have HG := Lib.hid hG.1
  clear hk hr hu hG
  go_enter Tryd.func8, Tryd.ntmps8
  go_wp2_with fail
  refine HK.out.mono ?_
  rintro e w1 ⟨rfl, hB1⟩
  go_wp2_with fail
  go_loopw [19] (fun i wr => ∃ k : Nat, k ≤ n ∧ k ≤ 20 ∧ i = .int .i64 k ∧ Below w.heap.size w wr) (fun i _ => n - (intOf i).toNat)
  case atStart => exact ⟨0, by omega, by omega, rfl, hB1⟩
  case round =>
    obtain ⟨k, hk, hk20, rfl, hB⟩ := hrel
    by_cases hlt : k < n
    · obtain ⟨ad, v, rfl, _, hx, hc⟩ := (HR.out.below hB).at_ hlt
      obtain ⟨s, hs, rfl⟩ := us_at hx
      obtain ⟨s0, s1⟩ := HU.out k s hs
      have j0 : (0 : Int) ≤ (k : Int) := by omega
      have j1 : (k : Int) < (n : Int) := by omega
      clear hx hs
      by_cases h20 : k = 20
      · have h20' : ((k : Int) == 20) = true := by simp; omega
        clear h20 hk20
        go_wp2
        go_ret
        exact ⟨rfl, hB⟩
      · have h20' : ((k : Int) == 20) = false := by simp; omega
        have H20 : Hid (k + 1 ≤ 20) := Lib.hid (by omega)
        have HLT := Lib.hid hlt
        have HQ := Lib.hid (fun u => check_any s u s0 s1)
        clear h20 hk20 HK
        by_cases hs : s < 256
        · rw [show chkV s = 0 from if_pos hs] at HQ
          have HL := Lib.hid (fun u hu => list_any s u s0 s1 hu)
          have HC := Lib.hid (fun u => count_any s u s0 s1)
          have HN := Lib.hid (fun a u hu => next_any s a u s0 s1 hu)
          have HH := Lib.hid (fun c u => has_any s c u s0 s1)
          obtain ⟨m, rfl⟩ := Int.eq_ofNat_of_zero_le s0
          have hm : m < 256 := by omega
          have HO := Lib.hid (ofE_yes (of_mem hm))
          have HS := Lib.hid (rises hm)
          have HE := Lib.hid (goes_facts hm)
          have HA := Lib.hid (fun x a k h hg => goes_at (s := (m : Int)) (x := x) (a := a) (l := mem (m : Int)) (k := k) h hg)
          have HZ := Lib.hid (fun a hg => goes_end (s := (m : Int)) (a := a) (l := mem (m : Int)) hg)
          have hl8 : (mem (m : Int)).length ≤ 8 := length_memb _ 8
          generalize mem (m : Int) = L at *
          generalize (m : Int) = s at *
          clear hs hm s0 s1
          go_wp2_with fail
          refine (HQ.out _).mono ?_
          rintro e w' ⟨rfl, rfl⟩
          go_wp2_with fail
          have hD := HG.out.below hB HG.out.lt
          refine (HL.out _ hD).mono ?_
          rintro e w2 ⟨A2, c2, rfl, hO2, hB2⟩
          have hD2 := hD.below hB2 hD.lt
          have b2 := hB.trans (hB2.mono hB.size)
          have hR2 := Reads.of_own hO2
          have HOf := Lib.hid (of_any A2 c2 L w2 (by omega) hR2)
          rw [HO.out] at HOf
          have HSo := Lib.hid (sorted_any A2 L.length c2 L w2 hR2 (by omega) HS.out)
          clear hO2 hB2 hD hB hc
          go_wp2_with fail
          refine HOf.out.mono ?_
          rintro e w' ⟨rfl, rfl⟩
          go_wp2_with fail
          refine HSo.out.mono ?_
          rintro e w' ⟨rfl, q, rfl⟩
          go_wp2_with fail
          refine (HC.out _).mono ?_
          rintro e w' ⟨rfl, q2, rfl⟩
          go_wp2_with fail
          obtain ⟨B, hBs⟩ : ∃ B, B = w2.heap.size := ⟨_, rfl⟩
          rw [← hBs] at hR2
          go_loopw [8, 57] (fun a i wr => ∃ (j : Nat) (x : Int), j ≤ L.length ∧ i = .int .i64 j ∧ a = .int .i64 x ∧ goesB s (L.drop j) x = true ∧ Below B w2 wr) (fun _ i _ => L.length - (intOf i).toNat)
          case atStart => exact ⟨0, -1, by omega, rfl, rfl, HE.out, below_drewN (Below.refl _ _) _⟩
          case round =>
            obtain ⟨j, x, hj, rfl, rfl, hg, hBB⟩ := hrel
            have hDr := hD2.below hBB (by rw [hBs]; exact hD2.lt)
            have HNx := Lib.hid (fun (u : World) (h : u = wr) => HN.out x u (by rw [h]; exact hDr))
            by_cases hjt : j < L.length
            · obtain ⟨ad', v', rfl, _, hx', hc'⟩ := (hR2.below hBB).at_ hjt
              obtain ⟨y, hy, rfl⟩ := vs_at hx'
              obtain ⟨n1, n2, n3⟩ := HA.out y x j hy hg
              rw [n1] at HNx
              have HHy := Lib.hid (fun u => HH.out y u)
              rw [n2] at HHy
              have HG3 := Lib.hid n3
              have JLT := Lib.hid hjt
              have j2 : (0 : Int) ≤ (j : Int) := by omega
              have j3 : (j : Int) < (L.length : Int) := by omega
              clear hx' hy hg n1 n2 n3 hDr
              go_wp2_with fail
              refine (HNx.out _ rfl).mono ?_
              rintro e w3 ⟨rfl, hB3⟩
              have hB4 : Below B w2 w3 := hBB.trans (hB3.mono (by have := hBB.size; omega))
              clear hB3
              go_wp2_with fail
              refine (HHy.out _).mono ?_
              rintro e w' ⟨rfl, rfl⟩
              go_wp2
              go_roundw
              case rel => exact ⟨j + 1, y, JLT.out, by go_num, rfl, HG3.out, hB4⟩
              case measure => have := JLT.out; simp [intOf]; omega
            · obtain rfl : j = L.length := by omega
              have HV := Lib.hid (HZ.out x hg)
              rw [HV.out] at HNx
              clear hg hDr
              go_wp2_with fail
              refine (HNx.out _ rfl).mono ?_
              rintro e w3 ⟨rfl, hB3⟩
              have hB4 : Below B w2 w3 := hBB.trans (hB3.mono (by have := hBB.size; omega))
              have hB5 := b2.trans (hB4.mono (by have := b2.size; omega))
              clear hB3 hB4 hBB
              go_wp2
              go_roundw
              case rel => exact ⟨k + 1, HLT.out, H20.out, by go_num, hB5⟩
              case measure => have := HLT.out; simp [intOf]; omega
        · rw [show chkV s = 140 from if_neg hs] at HQ
          clear hs s0 s1
          go_wp2_with fail
          refine (HQ.out _).mono ?_
          rintro e w' ⟨rfl, rfl⟩
          go_wp2
          go_roundw
          case rel => exact ⟨k + 1, HLT.out, H20.out, by go_num, hB⟩
          case measure => have := HLT.out; simp [intOf]; omega
    · obtain rfl : n = k := by omega
      clear hk20
      go_wp2
      go_ret
      exact ⟨rfl, hB⟩

end Go.Proofs.YtbmlhodglemplaaDoor
