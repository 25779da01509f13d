/-
  CpusetTexts' walk: sets' texts, and which texts are sets'.
-/
import Derived.Test.YtbmlhodglemplaaDoorOg
namespace Go.Proofs.YtbmlhodglemplaaDoor
open Go.RowKit

theorem strs_at {l : List ByteArray} {k : Nat} {v : Value} (h : (strs l)[k]? = some v) : ∃ x, l[k]? = some x ∧ v = .string x := by
  unfold strs at h
  rw [List.getElem?_map] at h
  cases hl : l[k]? with
  | none => rw [hl] at h; cases h
  | some x => rw [hl] at h; injection h with h; exact ⟨x, rfl, h.symm⟩

set_option maxHeartbeats 8000000 in
set_option maxRecDepth 100000 in
theorem texts_walk (A0 : Option Addr) (n c : Nat) (ss : List Int) (B0 : Option Addr) (n' c' : Nat) (ts : List ByteArray) (w : World) (hr : Reads w w.heap.size 1 A0 n (us ss)) (hu : ∀ (k : Nat) (x : Int), ss[k]? = some x → U32 x) (hn : n ≤ maxLen)
    (hr' : Reads w w.heap.size 1 B0 n' (strs ts)) (hu' : ∀ (k : Nat) (x : ByteArray), ts[k]? = some x → x.size ≤ maxLen) (hn' : n' ≤ maxLen) (hG : Gd w)
    (hk : Calls Tryd.prog 10 #[] w fun e w' => e = .returned (.bool true) ∧ Below w.heap.size w w') :
    Calls Tryd.prog 6 #[.slice A0 n c, .slice B0 n' c'] w fun e w' => e = .returned (.bool true) ∧ Below w.heap.size w w' := by
  unfold maxLen at hn hn' hu'
  have HK := Lib.hid hk
  have HR := Lib.hid hr
  have HU := Lib.hid hu
  have HS := Lib.hid hr'
  have HT := Lib.hid hu'
  have HG := Lib.hid hG
  clear hk hr hu hr' hu' hG
  go_enter Tryd.func6, Tryd.ntmps6
  go_wp2_with fail
  refine HK.out.mono ?_
  rintro e w1 ⟨rfl, hB1⟩
  clear HK
  go_wp2_with fail
  go_loopw [20] (fun i wr => ∃ k : Nat, k ≤ n ∧ k ≤ 20 ∧ i = .int .i64 k ∧ Below w.heap.size w wr) (fun i _ => n - (intOf i).toNat)
  case atStart => exact ⟨0, by omega, by omega, rfl, hB1⟩
  case round =>
    clear hB1
    obtain ⟨k, hk, hk20, rfl, hB⟩ := hrel
    by_cases hlt : k < n
    · obtain ⟨ad, v, rfl, _, hx, hc⟩ := (HR.out.below hB).at_ hlt
      obtain ⟨s, hs, rfl⟩ := us_at hx
      obtain ⟨s0, s1⟩ := HU.out k s hs
      have j0 : (0 : Int) ≤ (k : Int) := by omega
      have j1 : (k : Int) < (n : Int) := by omega
      clear hx hs
      by_cases h20 : k = 20
      · have h20' : ((k : Int) == 20) = true := by simp; omega
        clear h20 hk20
        go_wp2_with fail
        go_loopw [60] (fun i wr => ∃ j : Nat, j ≤ n' ∧ j ≤ 12 ∧ i = .int .i64 j ∧ Below w.heap.size w wr) (fun i _ => n' - (intOf i).toNat)
        case atStart => exact ⟨0, by omega, by omega, rfl, hB⟩
        case round =>
          clear hB
          obtain ⟨j, hj, hj12, rfl, hB⟩ := hrel
          by_cases hjt : j < n'
          · obtain ⟨ad', v', rfl, _, hx', hc'⟩ := (HS.out.below hB).at_ hjt
            obtain ⟨T, hT, rfl⟩ := strs_at hx'
            have hsz := HT.out j T hT
            have j2 : (0 : Int) ≤ (j : Int) := by omega
            have j3 : (j : Int) < (n' : Int) := by omega
            clear hx' hT
            by_cases h12 : j = 12
            · have h12' : ((j : Int) == 12) = true := by simp; omega
              clear h12 hj12
              go_wp2
              go_ret
              exact ⟨rfl, hB⟩
            · have h12' : ((j : Int) == 12) = false := by simp; omega
              have J12 : Hid (j + 1 ≤ 12) := Lib.hid (by omega)
              have JLT := Lib.hid hjt
              have hV : (T.extract 0 (min (T.size : Int) 60).toNat).size ≤ 60 := by rw [Lib.size_eq, Lib.extract_data]; simp; omega
              have HP := Lib.hid (fun u hu => parse_any (T.extract 0 (min (T.size : Int) 60).toNat) u (by omega) hu)
              have HQ := Lib.hid (fun u => rparse_any (T.extract 0 (min (T.size : Int) 60).toNat) u)
              cases hp : parV (T.extract 0 (min (T.size : Int) 60).toNat) with
              | none =>
                rw [parE_none hp] at HP
                rw [hp] at HQ
                have HQ : Hid (∀ u, Calls Tryd.prog 33 #[.string (T.extract 0 (min (T.size : Int) 60).toNat)] u fun e w' => e = .returned (.tuple #[.int .u32 0, .bool false]) ∧ u = w') := HQ
                clear h12 hj12 hp hV
                go_wp2_with fail
                refine (HP.out _ (HG.out.below hB)).mono ?_
                rintro e w2 ⟨rfl, h2⟩
                have b2 := hB.trans (h2.mono hB.size)
                clear h2 hB
                go_wp2_with fail
                refine (HQ.out _).mono ?_
                rintro e w' ⟨rfl, rfl⟩
                go_wp2
                go_roundw
                case rel => exact ⟨j + 1, JLT.out, J12.out, by go_num, b2⟩
                case measure => have := JLT.out; simp [intOf]; omega
              | some s =>
                rw [parE_some hp] at HP
                rw [hp] at HQ
                have HQ : Hid (∀ u, Calls Tryd.prog 33 #[.string (T.extract 0 (min (T.size : Int) 60).toNat)] u fun e w' => e = .returned (.tuple #[.int .u32 (s : Int), .bool true]) ∧ u = w') := HQ
                clear h12 hj12 hp hV
                go_wp2_with fail
                refine (HP.out _ (HG.out.below hB)).mono ?_
                rintro e w2 ⟨rfl, h2⟩
                have b2 := hB.trans (h2.mono hB.size)
                clear h2 hB
                go_wp2_with fail
                refine (HQ.out _).mono ?_
                rintro e w' ⟨rfl, rfl⟩
                go_wp2
                go_roundw
                case rel => exact ⟨j + 1, JLT.out, J12.out, by go_num, b2⟩
                case measure => have := JLT.out; simp [intOf]; omega
          · obtain rfl : n' = j := by omega
            clear hj12
            go_wp2
            go_ret
            exact ⟨rfl, hB⟩
      · have h20' : ((k : Int) == 20) = false := by simp; omega
        have H20 : Hid (k + 1 ≤ 20) := Lib.hid (by omega)
        have HLT := Lib.hid hlt
        have HX := Lib.hid (fun u hu => text_any s u hu s0 s1)
        have HI := Lib.hid (fun u => rright_any s u)
        clear h20 hk20
        by_cases hs : s < 256
        · rw [show textE s = (textB s, 0) from if_pos hs] at HX
          rw [decide_eq_true hs] at HI
          have HY := Lib.hid (fun u => rtext_any s u s0)
          generalize textB s = X at *
          clear hs s0 s1
          go_wp2_with fail
          refine (HX.out _ (HG.out.below hB).1).mono ?_
          rintro e w2 ⟨rfl, h2⟩
          have b2 := hB.trans (h2.mono hB.size)
          clear h2 hB hc
          go_wp2_with fail
          refine (HI.out _).mono ?_
          rintro e w' ⟨rfl, rfl⟩
          go_wp2_with fail
          refine (HY.out _).mono ?_
          rintro e w' ⟨rfl, rfl⟩
          go_wp2
          go_roundw
          case rel => exact ⟨k + 1, HLT.out, H20.out, by go_num, b2⟩
          case measure => have := HLT.out; simp [intOf]; omega
        · rw [show textE s = (⟨#[]⟩, 140) from if_neg hs] at HX
          rw [decide_eq_false hs] at HI
          clear hs s0 s1
          go_wp2_with fail
          refine (HX.out _ (HG.out.below hB).1).mono ?_
          rintro e w2 ⟨rfl, h2⟩
          have b2 := hB.trans (h2.mono hB.size)
          clear h2 hB hc
          go_wp2_with fail
          refine (HI.out _).mono ?_
          rintro e w' ⟨rfl, rfl⟩
          go_wp2
          go_roundw
          case rel => exact ⟨k + 1, HLT.out, H20.out, by go_num, b2⟩
          case measure => have := HLT.out; simp [intOf]; omega
    · obtain rfl : n = k := by omega
      clear hk20
      go_wp2_with fail
      go_loopw [60] (fun i wr => ∃ j : Nat, j ≤ n' ∧ j ≤ 12 ∧ i = .int .i64 j ∧ Below w.heap.size w wr) (fun i _ => n' - (intOf i).toNat)
      case atStart => exact ⟨0, by omega, by omega, rfl, hB⟩
      case round =>
        clear hB
        obtain ⟨j, hj, hj12, rfl, hB⟩ := hrel
        by_cases hjt : j < n'
        · obtain ⟨ad', v', rfl, _, hx', hc'⟩ := (HS.out.below hB).at_ hjt
          obtain ⟨T, hT, rfl⟩ := strs_at hx'
          have hsz := HT.out j T hT
          have j2 : (0 : Int) ≤ (j : Int) := by omega
          have j3 : (j : Int) < (n' : Int) := by omega
          clear hx' hT
          by_cases h12 : j = 12
          · have h12' : ((j : Int) == 12) = true := by simp; omega
            clear h12 hj12
            go_wp2
            go_ret
            exact ⟨rfl, hB⟩
          · have h12' : ((j : Int) == 12) = false := by simp; omega
            have J12 : Hid (j + 1 ≤ 12) := Lib.hid (by omega)
            have JLT := Lib.hid hjt
            have hV : (T.extract 0 (min (T.size : Int) 60).toNat).size ≤ 60 := by rw [Lib.size_eq, Lib.extract_data]; simp; omega
            have HP := Lib.hid (fun u hu => parse_any (T.extract 0 (min (T.size : Int) 60).toNat) u (by omega) hu)
            have HQ := Lib.hid (fun u => rparse_any (T.extract 0 (min (T.size : Int) 60).toNat) u)
            cases hp : parV (T.extract 0 (min (T.size : Int) 60).toNat) with
            | none =>
              rw [parE_none hp] at HP
              rw [hp] at HQ
              have HQ : Hid (∀ u, Calls Tryd.prog 33 #[.string (T.extract 0 (min (T.size : Int) 60).toNat)] u fun e w' => e = .returned (.tuple #[.int .u32 0, .bool false]) ∧ u = w') := HQ
              clear h12 hj12 hp hV
              go_wp2_with fail
              refine (HP.out _ (HG.out.below hB)).mono ?_
              rintro e w2 ⟨rfl, h2⟩
              have b2 := hB.trans (h2.mono hB.size)
              clear h2 hB
              go_wp2_with fail
              refine (HQ.out _).mono ?_
              rintro e w' ⟨rfl, rfl⟩
              go_wp2
              go_roundw
              case rel => exact ⟨j + 1, JLT.out, J12.out, by go_num, b2⟩
              case measure => have := JLT.out; simp [intOf]; omega
            | some s =>
              rw [parE_some hp] at HP
              rw [hp] at HQ
              have HQ : Hid (∀ u, Calls Tryd.prog 33 #[.string (T.extract 0 (min (T.size : Int) 60).toNat)] u fun e w' => e = .returned (.tuple #[.int .u32 (s : Int), .bool true]) ∧ u = w') := HQ
              clear h12 hj12 hp hV
              go_wp2_with fail
              refine (HP.out _ (HG.out.below hB)).mono ?_
              rintro e w2 ⟨rfl, h2⟩
              have b2 := hB.trans (h2.mono hB.size)
              clear h2 hB
              go_wp2_with fail
              refine (HQ.out _).mono ?_
              rintro e w' ⟨rfl, rfl⟩
              go_wp2
              go_roundw
              case rel => exact ⟨j + 1, JLT.out, J12.out, by go_num, b2⟩
              case measure => have := JLT.out; simp [intOf]; omega
        · obtain rfl : n' = j := by omega
          clear hj12
          go_wp2
          go_ret
          exact ⟨rfl, hB⟩

end Go.Proofs.YtbmlhodglemplaaDoor
