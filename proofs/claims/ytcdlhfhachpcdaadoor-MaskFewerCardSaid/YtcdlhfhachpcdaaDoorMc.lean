/-
  The contract of the document's Choice. No statement is proved here.
-/
import Derived.Test.YtcdlhfhachpcdaaDoorMb
import Derived.Test.YtcdlhfhachpcdaaDoorMd
namespace Go.Proofs.YtcdlhfhachpcdaaDoor
open Go.RowKit

/-- numbers as they are told -/
def ints (l : List Nat) : List Int := l.map fun (k : Nat) => (k : Int)
theorem length_ints (l : List Nat) : (ints l).length = l.length := by simp [ints]
/-- a call answers a row of numbers in memory of its own, and whether there is one -/
def ListsB (w : World) (l : List Int) (b : Bool) (e : Ending) (w' : World) : Prop :=
  ∃ A n c, e = .returned (.tuple #[.slice A n c, .bool b]) ∧ n = l.length ∧ Reads w' w'.heap.size 1 A n (vs l) ∧ Below w.heap.size w w'
theorem mvs_drop (l : List (Int × Int)) (k : Nat) : (mvs l).drop (k * 2) = mvs (l.drop k) := by
  by_cases h : k ≤ l.length
  · have h1 : mvs l = mvs (l.take k) ++ mvs (l.drop k) := by unfold mvs; rw [← flat_append, List.take_append_drop]
    have h2 : (mvs (l.take k)).length = k * 2 := by rw [length_mvs, List.length_take, Nat.min_eq_left h]
    rw [h1, ← h2, List.drop_left]
  · rw [List.drop_eq_nil_of_le (by rw [length_mvs]; omega), List.drop_eq_nil_of_le (by omega)]
    rfl
theorem hards_dropped (l : List (Int × Int)) (k : Nat) : hards (l.drop k) = (hards l).drop k := by unfold hards; rw [List.map_drop]
theorem length_hards (l : List (Int × Int)) : (hards l).length = l.length := by simp [hards]

set_option maxRecDepth 100000 in
set_option maxHeartbeats 8000000 in
theorem rchoice_none (A : Option Addr) (n c : Nat) (l : List (Int × Int)) (S : Nat) (w : World) (hR : Reads w w.heap.size 2 A n (mvs l)) (hU : ∀ (k : Nat) (m : Int × Int), l[k]? = some m → UM m) (hn : n ≤ 16) (s1 : S < 256)
    (hM : mostN (hards l) S < n) :
    Calls Tryd.prog 23 #[.slice A n c, .int .u32 (S : Int)] w (ListsB w [] false) := by
  have hm := rmost_any A n c l (S : Int) w hR hU (by omega) (by omega) (by omega)
  rw [Int.toNat_natCast] at hm
  generalize mostN (hards l) S = E at *
  have HM := Lib.hid hm
  clear hm hR hU s1
  go_enter Tryd.func23, Tryd.ntmps23
  go_wp2_with fail
  refine HM.out.mono ?_
  rintro e w1 ⟨rfl, h1⟩
  go_wp2
  go_ret2
  exact ⟨none, 0, 0, rfl, rfl, Reads.none_, h1⟩

set_option maxRecDepth 100000 in
set_option maxHeartbeats 16000000 in
theorem rchoice_some (A : Option Addr) (n c : Nat) (l : List (Int × Int)) (S : Nat) (w : World) (hR : Reads w w.heap.size 2 A n (mvs l)) (hnc : n ≤ c) (hU : ∀ (k : Nat) (m : Int × Int), l[k]? = some m → UM m) (hn : n ≤ 16) (s1 : S < 256)
    (hM : mostN (hards l) S = n) :
    Calls Tryd.prog 23 #[.slice A n c, .int .u32 (S : Int)] w (ListsB w (ints (firstL (hards l) S)) true) := by
  obtain ⟨i0, hi0, hz0, hz1, hz2⟩ := info_parts int_info
  have hm := rmost_any A n c l (S : Int) w hR hU (by omega) (by omega) (by omega)
  rw [Int.toNat_natCast, hM] at hm
  have HM := Lib.hid hm
  have HM0 := Lib.hid hM
  have HL := Lib.hid (masks_len hR)
  have HR := Lib.hid hR
  have HU := Lib.hid hU
  obtain ⟨Z, hZ⟩ : ∃ Z, ints (firstL (hards l) S) = Z := ⟨_, rfl⟩
  rw [hZ]
  have HZ := Lib.hid hZ
  have HS1 := Lib.hid s1
  clear hm hR hU hM hZ s1
  go_enter Tryd.func23, Tryd.ntmps23
  go_wp2_with fail
  refine HM.out.mono ?_
  rintro e w1 ⟨rfl, h1⟩
  clear HM
  go_wp2_with fail
  go_loopw [1, 6, 7] (fun f v iv wr => ∃ (i : Nat) (s : Nat) (done : List Nat), i ≤ n ∧ f = .int .u32 (s : Int) ∧ iv = .int .i64 (i : Int) ∧ Hid (s < 256) ∧ Hid (done.length = i) ∧ Hid (mostN ((hards l).drop i) s = n - i) ∧ Hid (ints (done ++ firstL ((hards l).drop i) s) = Z) ∧
    Hid (wr.ownsRow w.heap.size 3 1 v i (vs (ints done))) ∧ Below w.heap.size w wr) (fun _ _ iv _ => n - (intOf iv).toNat)
  case atStart => exact ⟨0, S, [], by omega, rfl, rfl, HS1, Lib.hid rfl, Lib.hid HM0.out, Lib.hid HZ.out, Lib.hid (World.ownsRow_nil _ _ _ _), h1⟩
  case round =>
    clear h1
    obtain ⟨i, s, done, hi, rfl, rfl, HS, HDl, HMo, HZd, HO, hB⟩ := hrel
    by_cases hlt : i < n
    · obtain ⟨⟨x, y⟩, hm⟩ := elem_at (l := l) (k := i) (by rw [HL.out]; exact hlt)
      obtain ⟨ux, uy⟩ := HU.out i _ hm
      have hd := hards_drop hm
      have HMk := Lib.hid hm
      have hmo := HMo.out
      rw [hd] at hmo
      have htl : ((hards l).drop (i + 1)).length = n - (i + 1) := by rw [List.length_drop, length_hards, HL.out]
      obtain ⟨c0, hc0⟩ := first_there (by rw [hmo, htl]; omega)
      obtain ⟨g1, g2, g3, g4⟩ := first_facts hc0
      have HF := Lib.hid (And.intro g2 (And.intro g3 g4))
      have HZ2 : Hid (ints (done ++ [c0] ++ firstL ((hards l).drop (i + 1)) (s - 2 ^ c0)) = Z) := Lib.hid (by
        rw [← HZd.out, hd]
        congr 1
        show _ = done ++ (match firstC x.toNat ((hards l).drop (i + 1)) s with | none => [] | some c => c :: firstL ((hards l).drop (i + 1)) (s - 2 ^ c))
        rw [hc0, List.append_assoc]
        rfl)
      have HTL := Lib.hid htl
      have HAl := Lib.hid (fun u => rallows_any x y (s : Int) u ux ⟨by omega, by have := HS.out; omega⟩)
      rw [Int.toNat_natCast] at HAl
      have HHas : Hid (∀ (k : Nat), k < 8 → ∀ u, Calls Tryd.prog 17 #[.int .u32 ((x.toNat &&& s : Nat) : Int), .int .i64 (k : Int)] u fun e w' => e = .returned (.bool ((x.toNat &&& s).testBit k)) ∧ u = w') := Lib.hid (fun k hk u => by
        have := rhas_any ((x.toNat &&& s : Nat) : Int) (k : Int) u (by omega)
        rwa [has_bit hk] at this)
      clear hm ux uy hd hmo htl hc0 g2 g3 g4 HMo HZd
      go_wp2_with fail
      go_loopw [1, 6, 8] (fun f v cv wr => ∃ (k s' m : Nat), cv = .int .i64 (k : Int) ∧ f = .int .u32 (s' : Int) ∧ Hid (∃ d, wr.ownsRow w.heap.size 3 1 v m (vs (ints d)) ∧ d.length = m ∧ ((k ≤ c0 ∧ m = i ∧ s' = s ∧ d = done) ∨ (k = c0 + 1 ∧ m = i + 1 ∧ s' = s - 2 ^ c0 ∧ d = done ++ [c0]))) ∧ m ≤ 17 ∧ k ≤ 8 ∧ Below w.heap.size w wr)
        (fun _ _ cv _ => 9 - (intOf cv).toNat)
      case atStart => exact ⟨0, s, i, rfl, rfl, Lib.hid ⟨done, HO.out, HDl.out, .inl ⟨by omega, rfl, rfl, rfl⟩⟩, by omega, by omega, hB⟩
      case round =>
        clear HO hB
        obtain ⟨k, s', m, rfl, rfl, HC, hm17, hk8, hB⟩ := hrel
        obtain ⟨d, ho, hdl, hcase⟩ := HC.out
        obtain ⟨A1, c1, rfl, hmc1, _⟩ := own_reads ho
        have HO2 := Lib.hid ho
        have hsz := hB.size
        clear HC
        rcases hcase with ⟨hk0, rfl, rfl, rfl⟩ | ⟨hk, hm, hs', rfl⟩
        · obtain ⟨ad, rfl, hb, d0, d1⟩ := mask_at (HR.out.below hB) HMk.out
          have k8 : k < 8 := by omega
          have HHk := Lib.hid (HHas.out k k8)
          have HLT := Lib.hid hlt
          have j1 : (m : Int) < (n : Int) := by omega
          have k8i : (k : Int) < 8 := by omega
          clear ho
          generalize hav : (x.toNat &&& s' : Nat) = av at HHk HAl
          cases hbt : av.testBit k with
          | false =>
            rw [hbt] at HHk
            have HK1 : Hid (k + 1 ≤ c0) := Lib.hid (by
              rcases Nat.lt_or_ge k c0 with h | h
              · exact h
              · obtain rfl : k = c0 := by omega
                have := HF.out.1
                rw [hav, hbt] at this
                cases this)
            clear hbt hav
            go_wp2_with fail
            refine (HAl.out _).mono ?_
            rintro e w4 ⟨rfl, h4⟩
            have hB3 := hB.trans (h4.mono hsz)
            have HO3 := Lib.hid (own_below HO2.out h4)
            clear hB d0 d1 h4 hsz HO2
            go_wp2_with fail
            refine (HHk.out _).mono ?_
            rintro e w5 ⟨rfl, rfl⟩
            go_wp2
            go_roundw
            case rel => exact ⟨k + 1, s', m, by go_num, rfl, Lib.hid ⟨d, HO3.out, hdl, .inl ⟨HK1.out, rfl, rfl, rfl⟩⟩, hm17, by omega, hB3⟩
            case measure => simp [intOf] <;> omega
          | true =>
            rw [hbt] at HHk
            have hsb : s'.testBit k = true := by
              rw [← hav, Nat.testBit_and, Bool.and_eq_true] at hbt
              exact hbt.2
            have hpw : 2 ^ k ≤ s' := Nat.ge_two_pow_of_testBit hsb
            have HBi := Lib.hid (fun u => rbit_any k u (by omega))
            obtain ⟨r, hr⟩ : ∃ r : Nat, r = s' - 2 ^ k := ⟨_, rfl⟩
            have e2 : (2 : Int) ^ k = ((2 ^ k : Nat) : Int) := by push_cast; rfl
            obtain ⟨X, hX⟩ : ∃ X : Nat, X = 2 ^ k := ⟨_, rfl⟩
            rw [e2, ← hX] at HBi
            have hX256 : X ≤ 256 := by rw [hX]; exact Nat.pow_le_pow_right (by omega) (show k ≤ 8 by omega)
            have er : (s' : Int) - (X : Int) = (r : Int) := by rw [hr, hX]; omega
            have hs8 := HS.out
            have wX : IntKind.u32.wrap (X : Int) = (X : Int) := by simp [IntKind.wrap, IntKind.bits, IntKind.signed]; omega
            have wr1 : IntKind.u32.wrap (r : Int) = (r : Int) := by simp [IntKind.wrap, IntKind.bits, IntKind.signed]; omega
            have HAV := Lib.hid hav
            have HBT := Lib.hid hbt
            have HRR := Lib.hid hr
            have j3 : (m : Int) + 1 ≤ (n : Int) := by omega
            have j4 : (n : Int) ≤ (c : Int) := by omega
            obtain ⟨Aw, hAw⟩ : ∃ Aw, (if c = m + 1 then some ad else some (ad.add ((m + 1) * 2))) = Aw := ⟨_, rfl⟩
            have hcut := HR.out.cut (k := m + 1) (cap := c) (by omega) hnc
            rw [mvs_drop] at hcut
            have HRd : Hid (Reads w w.heap.size 2 Aw (n - (m + 1)) (mvs (l.drop (m + 1)))) := Lib.hid (by rw [← hAw]; exact hcut)
            obtain ⟨E2, hE2⟩ : ∃ E2, mostN ((hards l).drop (m + 1)) r = E2 := ⟨_, rfl⟩
            have HMs : Hid (∀ u, Below w.heap.size w u → Calls Tryd.prog 24 #[.slice Aw (n - (m + 1)) (c - (m + 1)), .int .u32 (r : Int)] u (Said (.int .i64 (E2 : Int)) u)) := Lib.hid (fun u hu => by
              have := rmost_any Aw (n - (m + 1)) (c - (m + 1)) (l.drop (m + 1)) (r : Int) u ((HRd.out.below hu).more hu.size) (fun k' m' hk' => HU.out (m + 1 + k') m' (by rw [← hk', List.getElem?_drop])) (by omega) (by omega) (by omega)
              rw [Int.toNat_natCast, hards_dropped, hE2] at this
              exact this)
            have hE2b : E2 ≤ 16 := by
              rw [← hE2]
              refine Nat.le_trans (most_len _ _) ?_
              rw [List.length_drop, length_hards, HL.out]
              omega
            have HEE := Lib.hid hE2
            have m16 : m ≤ 16 := by omega
            clear hbt hav hr hsb hpw e2 hX hcut hE2
            go_wp2_with fail
            refine (HAl.out _).mono ?_
            rintro e w4 ⟨rfl, h4⟩
            have hB3 := hB.trans (h4.mono hsz)
            have HO3 := Lib.hid (own_below HO2.out h4)
            clear hB d0 d1 h4 hsz HO2
            go_wp2_with fail
            refine (HHk.out _).mono ?_
            rintro e w5 ⟨rfl, rfl⟩
            go_wp2_with fail
            refine (HBi.out _).mono ?_
            rintro e w6 ⟨rfl, rfl⟩
            have HMr := Lib.hid (HMs.out _ hB3)
            have sz3 := hB3.size
            by_cases hg : E2 = n - (m + 1)
            · have q : ((E2 : Int) == (n : Int) - (m : Int) - 1) = true := by simp; omega
              have HKc : Hid (k = c0) := Lib.hid (by
                rcases Nat.lt_or_ge k c0 with h | h
                · have h1 := HF.out.2.2 k h (by rw [HAV.out]; exact HBT.out)
                  rw [← HRR.out, HEE.out, HTL.out] at h1
                  omega
                · omega)
              clear hg
              go_wp2_with fail
              refine HMr.out.mono ?_
              rintro e w7 ⟨rfl, h7⟩
              have hB7 := hB3.trans (h7.mono sz3)
              have HO7 := Lib.hid (own_below HO3.out h7)
              have sz7 := hB7.size
              clear hB3 h7 HO3 sz3
              go_wp2_with (
                at_builtin
                refine wpList_append_own _ rfl (.tmp 58) (.tmp 60) 38 rfl w.heap.size 3 i0 (.int .i64 0) 1 8 Tryd.underlying38 hi0 hz0 hz1 hz2 rfl (by decide) _ m _ rfl (HO7.out.alloc _) ⟨_, 0, none⟩ 1 1 [.int .i64 (k : Int)] rfl rfl (cell_one_new _ _ _) (by simp [Value.oneCell']) (by simp only [maxLen]; omega) (by omega) (by simp <;> omega) ?_
                intro v2 w8 hown8 hg8 _)
              have hO8 : w8.ownsRow w.heap.size 3 1 v2 (m + 1) (vs (ints (d ++ [c0]))) := by
                unfold ints at hown8 ⊢
                rw [List.map_append, vs_append, ← HKc.out]
                exact hown8
              have hB8 : Below w.heap.size w w8 := (hB7.alloc sz7 (.cells #[.int .i64 (k : Int)] 3)).grown hg8 (by simp <;> omega) (fun g hg => (HO7.out.lt g hg).1)
              go_roundw
              case rel => exact ⟨k + 1, r, m + 1, by go_num, rfl, Lib.hid ⟨d ++ [c0], hO8, by simp [hdl], .inr ⟨by rw [HKc.out], rfl, by rw [← HKc.out]; exact HRR.out, rfl⟩⟩, by omega, by omega, hB8⟩
              case measure => simp [intOf] <;> omega
            · have q : ((E2 : Int) == (n : Int) - (m : Int) - 1) = false := by simp; omega
              have HKc : Hid (k + 1 ≤ c0) := Lib.hid (by
                rcases Nat.lt_or_ge k c0 with h | h
                · exact h
                · obtain rfl : k = c0 := by omega
                  have h1 := HF.out.2.1
                  rw [← HRR.out, HEE.out, HTL.out] at h1
                  exact absurd h1 hg)
              clear hg
              go_wp2_with fail
              refine HMr.out.mono ?_
              rintro e w7 ⟨rfl, h7⟩
              have hB7 := hB3.trans (h7.mono sz3)
              have HO7 := Lib.hid (own_below HO3.out h7)
              clear hB3 h7 HO3 sz3
              go_wp2
              go_roundw
              case rel => exact ⟨k + 1, s', m, by go_num, rfl, Lib.hid ⟨d, HO7.out, hdl, .inl ⟨HKc.out, rfl, rfl, rfl⟩⟩, hm17, by omega, hB7⟩
              case measure => simp [intOf] <;> omega
        · have HK := Lib.hid hk
          have HMm := Lib.hid hm
          have HSs := Lib.hid hs'
          have hne : ((m : Int) == (i : Int)) = false := by simp; omega
          have HO3 := Lib.hid ho
          clear ho hk hm hs' HO2
          by_cases h8 : k < 8
          · have k8i : (k : Int) < 8 := by omega
            clear h8
            go_wp2
            go_roundw
            case rel => exact ⟨i + 1, s', done ++ [c0], by omega, rfl, by go_num, Lib.hid (by rw [HSs.out]; exact Nat.lt_of_le_of_lt (Nat.sub_le _ _) HS.out), Lib.hid (by simp [HDl.out]), Lib.hid (by rw [HSs.out, HF.out.2.1, HTL.out]), Lib.hid (by rw [HSs.out]; exact HZ2.out), Lib.hid (by rw [← HMm.out]; exact HO3.out), hB⟩
            case measure => simp [intOf] <;> omega
          · have k8i : ¬ (k : Int) < 8 := by omega
            clear h8
            go_wp2
            go_roundw
            case rel => exact ⟨i + 1, s', done ++ [c0], by omega, rfl, by go_num, Lib.hid (by rw [HSs.out]; exact Nat.lt_of_le_of_lt (Nat.sub_le _ _) HS.out), Lib.hid (by simp [HDl.out]), Lib.hid (by rw [HSs.out, HF.out.2.1, HTL.out]), Lib.hid (by rw [HSs.out]; exact HZ2.out), Lib.hid (by rw [← HMm.out]; exact HO3.out), hB⟩
            case measure => simp [intOf] <;> omega
    · obtain rfl : i = n := by omega
      obtain ⟨A2, c2, rfl, _, hr⟩ := own_reads HO.out
      have HE : Hid (done.length = i ∧ ints done = Z) := Lib.hid ⟨HDl.out, by
        have := HZd.out
        rwa [List.drop_eq_nil_of_le (by rw [length_hards, HL.out]; exact Nat.le_refl _), show firstL [] s = [] from rfl, List.append_nil] at this⟩
      have HF := Lib.hid hr
      clear hr HO
      go_wp2
      go_ret2
      exact ⟨A2, i, c2, rfl, by rw [← HE.out.2, length_ints]; exact HE.out.1.symm, by rw [← HE.out.2]; exact HF.out, hB⟩

end Go.Proofs.YtcdlhfhachpcdaaDoor
