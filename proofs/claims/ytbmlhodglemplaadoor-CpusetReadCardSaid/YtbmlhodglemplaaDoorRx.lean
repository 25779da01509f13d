/-
  CpusetRead's walk: sets and their texts lead back to one another.
-/
import Derived.Test.YtbmlhodglemplaaDoorOg
import Derived.Maps.OwnSet
import Derived.Maps.Views
namespace Go.Proofs.YtbmlhodglemplaaDoor
open Go.RowKit Go.Maps

theorem grown_of_below {w w' : World} (h : Below w.heap.size w w') (row : Option Nat) : w.grownBy w' row := ⟨h.os, h.tape, h.output, h.size, fun k hk _ => h.block k hk⟩
theorem str_law : Keyed Tryd.prog 9 := string_keyed Tryd.underlying9
theorem zero_bool (w : World) : (zeroValue 4).run Tryd.prog w = .ok (.bool false) w := by kernel_rfl

/-- is it the text of one of the first k sets? -/
def seen (k : Nat) (l : List UInt8) : Bool := (List.range k).any fun t => (textB (t : Int)).data.toList == l
theorem seen_more {k : Nat} {l : List UInt8} : seen (k + 1) l = (seen k l || (textB (k : Int)).data.toList == l) := by
  unfold seen
  rw [List.range_succ, List.any_append]
  simp
theorem seen_new {k : Nat} (hk : k < 256) : seen k (textB (k : Int)).data.toList = false := by
  unfold seen
  rw [List.any_eq_false]
  intro t ht
  have ht := List.mem_range.1 ht
  simp only [beq_iff_eq]
  intro e
  have := text_inj (s := t) (t := k) (by omega) hk (by rw [Lib.toList_data, Lib.toList_data, e])
  omega
theorem seen_none {T : ByteArray} (h : parV T = none) : seen 256 T.data.toList = false := by
  unfold seen
  rw [List.any_eq_false]
  intro t ht
  have ht := List.mem_range.1 ht
  simp only [beq_iff_eq]
  intro e
  exact par_complete h t (by omega) (by omega) (by rw [Lib.toList_data, Lib.toList_data, e])
/-- the map holds the texts of the first k sets -/
def Holds (D : DataW Unit) (k : Nat) : Prop := ∀ l : List UInt8, D.atKey (.string l) (.lit (.bool false)) = .lit (.bool (seen k l))
theorem holds_empty : Holds (.map []) 0 := fun l => atKey_of_not_has (by simp [has_eq]) _
theorem holds_put {D : DataW Unit} {k : Nat} (h : Holds D k) (hD : IsMap D) : Holds (D.put (.string (textB (k : Int)).data.toList) (.lit (.bool true))) (k + 1) := fun l => by
  rw [seen_more]
  by_cases e : (textB (k : Int)).data.toList = l
  · subst e
    rw [atKey_put_same hD (by trivial)]
    simp
  · rw [atKey_put_other (by intro h; injection h with h; exact e h.symm), h l]
    simp [e]
set_option maxRecDepth 100000 in
theorem bool_inv {v : Value} {x : Bool} {ps : List MemPlace} (h : plainElem (H := Unit) Tryd.prog 4 v = some (.lit (.bool x), ps)) : v = .bool x := by
  unfold plainElem at h
  rw [Tryd.underlying4] at h
  cases v <;> simp at h
  rw [h.1]
set_option maxRecDepth 100000 in
theorem own_look {w : World} {b n k : Nat} {D : DataW Unit} (h : w.ownsMap Tryd.prog 9 (plainElem (H := Unit) Tryd.prog 4) b n D) (hD : Holds D k) {T : ByteArray} (hT : T.size ≤ maxLen) :
    (Instr.lookup 58 (.map (some b)) (.string T) false).run Tryd.prog w = .ok (.bool (seen k T.data.toList)) w := by
  obtain ⟨v, ps, hrun, hv⟩ := h.lookup str_law Tryd.underlying58 (zero_bool w) (plainElem_bool Tryd.underlying4 false) (Go.WideMaps.keyOf_string_mk (s := T) Tryd.underlying9 hT)
  rw [hD] at hv
  rw [hrun, bool_inv hv]
theorem size_textB {k : Nat} (hk : k < 256) : (textB (k : Int)).size ≤ 1000 := by
  have := of_all (f := fun s => decide ((textB ((s : Nat) : Int)).size ≤ 1000)) 256 (by kernel_rfl) hk
  simpa using this

set_option maxHeartbeats 8000000 in
set_option maxRecDepth 100000 in
theorem read_walk (A0 : Option Addr) (n c : Nat) (ss : List Int) (T : ByteArray) (w : World) (hr : Reads w w.heap.size 1 A0 n (us ss)) (hu : ∀ (k : Nat) (x : Int), ss[k]? = some x → U32 x) (hn : n ≤ maxLen) (hT : T.size ≤ maxLen) (hG : Gd w)
    (hk : Calls Tryd.prog 10 #[] w fun e w' => e = .returned (.bool true) ∧ Below w.heap.size w w') :
    Calls Tryd.prog 9 #[.slice A0 n c, .string T] w fun e w' => e = .returned (.bool true) ∧ Below w.heap.size w w' := by
  unfold maxLen at hn hT
  have HK := Lib.hid hk
  have HR := Lib.hid hr
  have HU := Lib.hid hu
  have HG := Lib.hid hG
  have hmm := @run_makeMap Tryd.prog
  have hV : (T.extract 0 (min (T.size : Int) 60).toNat).size ≤ 60 := by rw [Lib.size_eq, Lib.extract_data]; simp; omega
  have HP := Lib.hid (fun u hu => parse_any (T.extract 0 (min (T.size : Int) 60).toNat) u (by omega) hu)
  have HV : Hid ((T.extract 0 (min (T.size : Int) 60).toNat).size ≤ maxLen) := Lib.hid (by unfold maxLen; omega)
  clear hk hr hu hG hV
  go_enter Tryd.func9, Tryd.ntmps9
  go_wp2_with fail
  refine HK.out.mono ?_
  rintro e w1 ⟨rfl, hB1⟩
  clear HK
  go_wp2_with fail
  have hz1 := hB1.size
  go_loopw [22] (fun v wr => ∃ (k : Nat) (D : DataW Unit), k ≤ 256 ∧ v = .int .u32 (k : Int) ∧ wr.ownsMap Tryd.prog 9 (plainElem (H := Unit) Tryd.prog 4) w1.heap.size k D ∧ Holds D k ∧ Below w.heap.size w wr) (fun v _ => 256 - (intOf v).toNat)
  case atStart => exact ⟨0, .map [], by omega, rfl, World.ownsMap_made _ _ _ _, holds_empty, hB1.alloc hB1.size _⟩
  case round =>
    clear hB1
    obtain ⟨k, D, hk, rfl, hown, hgood, hB⟩ := hrel
    have HD := Lib.hid hgood
    clear hgood
    by_cases hlt : k < 256
    · have HX := Lib.hid (fun u hu => text_any (k : Int) u hu (by omega) (by omega))
      rw [show textE (k : Int) = (textB (k : Int), 0) from if_pos (by omega)] at HX
      have HZ := Lib.hid (size_textB hlt)
      have HN := Lib.hid (seen_new hlt)
      have HPut := Lib.hid (holds_put HD.out hown.isMap)
      have HLT := Lib.hid hlt
      have hlt' : (k : Int) < 256 := by omega
      have h9 : (k : Int) + 1 ≤ 4294967295 := by omega
      generalize textB (k : Int) = X at *
      have HKEY : Hid (keyOf Tryd.prog 9 (.string X) = some (.string X.data.toList)) := Lib.hid (Go.WideMaps.keyOf_string_mk (s := X) Tryd.underlying9 (by have := HZ.out; unfold maxLen; omega))
      have HKL : Hid (k < maxLen) := Lib.hid (by unfold maxLen; omega)
      clear hlt hk
      go_wp2_with fail
      refine (HX.out _ (HG.out.below hB).1).mono ?_
      rintro e w2 ⟨rfl, h2⟩
      have b2 := hB.trans (h2.mono hB.size)
      have own2 := hown.kept (grown_of_below h2 none) (by simp)
      have hrun := own_look own2 HD.out (T := X) (by have := HZ.out; unfold maxLen; omega)
      rw [HN.out] at hrun
      clear h2 hB hown
      go_wp2_with (
        at_mapUpdate
        refine wpList_mapUpdate_own _ rfl _ _ _ 58 rfl 9 4 str_law Tryd.underlying58 _ w1.heap.size k D rfl own2 HKL.out _ _ _ rfl rfl HKEY.out _ [] (plainElem_bool Tryd.underlying4 true) ?_
        intro w4 own4 grow4)
      go_roundw
      case rel => exact ⟨k + 1, _, HLT.out, by go_num, own4, HPut.out, b2.grown grow4 b2.size (by rintro j ⟨rfl⟩; exact hz1)⟩
      case measure => have := HLT.out; simp [intOf]; omega
    · have HK6 : Hid (k = 256) := Lib.hid (by omega)
      have hge : ¬ (k : Int) < 256 := by omega
      clear hk hlt
      obtain ⟨wm, hwm⟩ : ∃ wm, wm = wr := ⟨_, rfl⟩
      go_wp2_with fail
      go_loopw [42] (fun i wq => ∃ j : Nat, j ≤ n ∧ j ≤ 20 ∧ i = .int .i64 j ∧ wq.ownsMap Tryd.prog 9 (plainElem (H := Unit) Tryd.prog 4) w1.heap.size k D ∧ Below w.heap.size w wq) (fun i _ => n - (intOf i).toNat)
      case atStart => exact ⟨0, by omega, by omega, rfl, hown, hB⟩
      case round =>
        have hB' := hB
        clear hB hown hwm
        obtain ⟨j, hj, hj20, rfl, hown, hB⟩ := hrel
        by_cases hjt : j < n
        · obtain ⟨ad, v, rfl, _, hx, hc⟩ := (HR.out.below hB).at_ hjt
          obtain ⟨s, hs, rfl⟩ := us_at hx
          obtain ⟨s0, s1⟩ := HU.out j s hs
          have j0 : (0 : Int) ≤ (j : Int) := by omega
          have j1 : (j : Int) < (n : Int) := by omega
          clear hx hs
          by_cases h20 : j = 20
          · have h20' : ((j : Int) == 20) = true := by simp; omega
            clear h20 hj20 hjt s0 s1
            cases hp : parV (T.extract 0 (min (T.size : Int) 60).toNat) with
            | none =>
              rw [parE_none hp] at HP
              have HS2 := Lib.hid (show seen k _ = false from HK6.out ▸ seen_none hp)
              clear hp hB'
              go_wp2_with fail
              refine (HP.out _ (HG.out.below hB)).mono ?_
              rintro e w2 ⟨rfl, h2⟩
              have b2 := hB.trans (h2.mono hB.size)
              have own2 := hown.kept (grown_of_below h2 none) (by simp)
              have hrun := own_look own2 HD.out (T := T.extract 0 (min (T.size : Int) 60).toNat) HV.out
              rw [HS2.out] at hrun
              clear h2 hB hown own2
              go_wp2
              go_ret
              exact ⟨rfl, b2⟩
            | some s =>
              rw [parE_some hp] at HP
              obtain ⟨hs1, _, hs2⟩ := par_sound hp
              have hs3 : textB (s : Int) = T.extract 0 (min (T.size : Int) 60).toNat := text_eq.1 hs1
              have HX := Lib.hid (fun u hu => text_any (s : Int) u hu (by omega) (by omega))
              rw [show textE (s : Int) = (textB (s : Int), 0) from if_pos (by omega), hs3] at HX
              clear hp hs1 hs2 hs3 hB' hown
              go_wp2_with fail
              refine (HP.out _ (HG.out.below hB)).mono ?_
              rintro e w2 ⟨rfl, h2⟩
              have b2 := hB.trans (h2.mono hB.size)
              clear h2 hB
              go_wp2_with fail
              refine (HX.out _ (HG.out.below b2).1).mono ?_
              rintro e w3 ⟨rfl, h3⟩
              have b3 := b2.trans (h3.mono b2.size)
              clear h3 b2
              go_wp2
              go_ret
              exact ⟨rfl, b3⟩
          · have h20' : ((j : Int) == 20) = false := by simp; omega
            have J20 : Hid (j + 1 ≤ 20) := Lib.hid (by omega)
            have JLT := Lib.hid hjt
            have HX := Lib.hid (fun u hu => text_any s u hu s0 s1)
            clear h20 hj20 hjt hB'
            by_cases hs : s < 256
            · rw [show textE s = (textB s, 0) from if_pos hs] at HX
              obtain ⟨m, rfl⟩ := Int.eq_ofNat_of_zero_le s0
              have hm : m < 256 := by omega
              have HB := Lib.hid (fun u hu => parse_any (textB (m : Int)) u (size_textB hm) hu)
              rw [parE_hit hm rfl] at HB
              generalize textB (m : Int) = X at *
              clear hs s0 s1 hm
              go_wp2_with fail
              refine (HX.out _ (HG.out.below hB).1).mono ?_
              rintro e w2 ⟨rfl, h2⟩
              have b2 := hB.trans (h2.mono hB.size)
              have own2 := hown.kept (grown_of_below h2 none) (by simp)
              clear h2 hB hown hc
              go_wp2_with fail
              refine (HB.out _ (HG.out.below b2)).mono ?_
              rintro e w3 ⟨rfl, h3⟩
              have b3 := b2.trans (h3.mono b2.size)
              have own3 := own2.kept (grown_of_below h3 none) (by simp)
              clear h3 b2 own2
              go_wp2
              go_roundw
              case rel => exact ⟨j + 1, JLT.out, J20.out, by go_num, own3, b3⟩
              case measure => have := JLT.out; simp [intOf]; omega
            · rw [show textE s = (⟨#[]⟩, 140) from if_neg hs] at HX
              clear hs s0 s1
              go_wp2_with fail
              refine (HX.out _ (HG.out.below hB).1).mono ?_
              rintro e w2 ⟨rfl, h2⟩
              have b2 := hB.trans (h2.mono hB.size)
              have own2 := hown.kept (grown_of_below h2 none) (by simp)
              clear h2 hB hown hc
              go_wp2
              go_roundw
              case rel => exact ⟨j + 1, JLT.out, J20.out, by go_num, own2, b2⟩
              case measure => have := JLT.out; simp [intOf]; omega
        · obtain rfl : n = j := by omega
          clear hj20 hjt
          cases hp : parV (T.extract 0 (min (T.size : Int) 60).toNat) with
          | none =>
            rw [parE_none hp] at HP
            have HS2 := Lib.hid (show seen k _ = false from HK6.out ▸ seen_none hp)
            clear hp hB'
            go_wp2_with fail
            refine (HP.out _ (HG.out.below hB)).mono ?_
            rintro e w2 ⟨rfl, h2⟩
            have b2 := hB.trans (h2.mono hB.size)
            have own2 := hown.kept (grown_of_below h2 none) (by simp)
            have hrun := own_look own2 HD.out (T := T.extract 0 (min (T.size : Int) 60).toNat) HV.out
            rw [HS2.out] at hrun
            clear h2 hB hown own2
            go_wp2
            go_ret
            exact ⟨rfl, b2⟩
          | some s =>
            rw [parE_some hp] at HP
            obtain ⟨hs1, _, hs2⟩ := par_sound hp
            have hs3 : textB (s : Int) = T.extract 0 (min (T.size : Int) 60).toNat := text_eq.1 hs1
            have HX := Lib.hid (fun u hu => text_any (s : Int) u hu (by omega) (by omega))
            rw [show textE (s : Int) = (textB (s : Int), 0) from if_pos (by omega), hs3] at HX
            clear hp hs1 hs2 hs3 hB' hown
            go_wp2_with fail
            refine (HP.out _ (HG.out.below hB)).mono ?_
            rintro e w2 ⟨rfl, h2⟩
            have b2 := hB.trans (h2.mono hB.size)
            clear h2 hB
            go_wp2_with fail
            refine (HX.out _ (HG.out.below b2).1).mono ?_
            rintro e w3 ⟨rfl, h3⟩
            have b3 := b2.trans (h3.mono b2.size)
            clear h3 b2
            go_wp2
            go_ret
            exact ⟨rfl, b3⟩

end Go.Proofs.YtbmlhodglemplaaDoor
