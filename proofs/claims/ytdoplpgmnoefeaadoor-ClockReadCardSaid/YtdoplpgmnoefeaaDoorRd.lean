/-
  ClockRead's walk: times and their texts lead back to one another.
-/
import Derived.Test.YtdoplpgmnoefeaaDoorTw
import Derived.Maps.OwnSet
import Derived.Maps.Views
namespace Go.Proofs.YtdoplpgmnoefeaaDoor
open Go.RowKit Go.Maps

theorem grown_of_below {w w' : World} (h : Below w.heap.size w w') (row : Option Nat) : w.grownBy w' row := ⟨h.os, h.tape, h.output, h.size, fun k hk _ => h.block k hk⟩
theorem str_law : Keyed Tryd.prog 9 := string_keyed Tryd.underlying9
theorem zero_i64 (w : World) : (zeroValue 2).run Tryd.prog w = .ok (.int .i64 0) w := by kernel_rfl

/-- what the map holds is right -/
def GoodM (D : DataW Unit) : Prop := ∀ T : Nat, T ≤ 1125899906842624 → Maps.has D (.string (txt T)) = true → ∀ z, D.atKey (.string (txt T)) z = .lit (.int .i64 (T : Int))
theorem goodM_empty : GoodM (.map []) := fun T _ h => by simp [has_eq] at h
theorem goodM_put {D : DataW Unit} (h : GoodM D) (hD : IsMap D) {T : Nat} (hT : T ≤ 1125899906842624) : GoodM (D.put (.string (txt T)) (.lit (.int .i64 (T : Int)))) := fun T' hT' hh z => by
  by_cases e : txt T' = txt T
  · have h1 := prs_txt hT'
    rw [e, prs_txt hT] at h1
    obtain rfl := Option.some.inj h1
    exact atKey_put_same hD (by trivial) _ z
  · have hne : (Lit.string (txt T')) ≠ .string (txt T) := fun h => e (by injection h)
    rw [has_put_other hne] at hh
    rw [atKey_put_other hne]
    exact h T' hT' hh z

set_option maxHeartbeats 8000000 in
set_option maxRecDepth 100000 in
theorem read_walk (A0 B0 : Option Addr) (n c n' c' : Nat) (ts : List Int) (ss : List ByteArray) (w : World) (hl : ts.length = n) (hr : Row1 (Value.int .i64) w A0 ts) (hl' : ss.length = n') (hr' : Row1 Value.string w B0 ss)
    (hss : ∀ (k : Nat) (x : ByteArray), ss[k]? = some x → x.size ≤ maxLen) (hT : Tab w)
    (hk : Calls Tryd.prog 10 #[] w fun e w' => e = .returned (.bool true) ∧ Below w.heap.size w w') (hn : n ≤ maxLen) (hn' : n' ≤ maxLen) :
    Calls Tryd.prog 9 #[.slice A0 n c, .slice B0 n' c'] w fun e w' => e = .returned (.bool true) ∧ Below w.heap.size w w' := by
  unfold maxLen at hn hn' hss
  have HK := Lib.hid hk
  have HR := Lib.hid hr
  have HL := Lib.hid hl
  have HR' := Lib.hid hr'
  have HL' := Lib.hid hl'
  have HSS := Lib.hid hss
  have HT := Lib.hid hT
  have hmm := @run_makeMap Tryd.prog
  clear hk hr hl hr' hl' hss hT
  go_enter Tryd.func9, Tryd.ntmps9
  go_wp2_with fail
  refine HK.out.mono ?_
  rintro e w1 ⟨rfl, hB1⟩
  go_wp2_with fail
  have hz1 := hB1.size
  go_loopw [25] (fun i wr => ∃ (k : Nat) (D : DataW Unit), k ≤ n ∧ k ≤ 30 ∧ i = .int .i64 k ∧ wr.ownsMap Tryd.prog 9 (plainElem (H := Unit) Tryd.prog 2) w1.heap.size k D ∧ GoodM D ∧ Below w.heap.size w wr) (fun i _ => n - (intOf i).toNat)
  case atStart => exact ⟨0, .map [], by omega, by omega, rfl, World.ownsMap_made _ _ _ _, goodM_empty, hB1.alloc hB1.size _⟩
  case round =>
    obtain ⟨k, D, hk, hk30, rfl, hown, hgood, hB⟩ := hrel
    have HG := Lib.hid hgood
    clear hgood
    by_cases hgo : k < n ∧ k ≠ 30
    · obtain ⟨hlt, h30⟩ := hgo
      obtain ⟨t, hm⟩ : ∃ t, ts[k]? = some t := ⟨_, List.getElem?_eq_getElem (by have := HL.out; omega)⟩
      obtain ⟨ad, rfl, hb, c0⟩ := HR.out k t hm
      have d0 := (hB.cell (p := ad.add k) (by rw [block_of_add]; exact hb)).trans c0
      have h30' : ((k : Int) == 30) = false := by simp; omega
      have hk1 : k + 1 ≤ 30 := by omega
      clear c0 hm h30
      cases ht : rt t with
      | true =>
        obtain ⟨T, rfl, hT⟩ := nat_of_rt ht
        obtain ⟨X, hX⟩ : ∃ X : ByteArray, (⟨(txt T).toArray⟩ : ByteArray) = X := ⟨_, rfl⟩
        have hXl : X.data.toList = txt T := by rw [← hX]
        have hXs : X.size ≤ 18 := by rw [Lib.size_eq, hXl]; exact txt_len hT
        have HTx := fun u hu => text_ok T hT u hu
        unfold Says at HTx
        rw [hX] at HTx
        have HTx := Lib.hid HTx
        have HPx := Lib.hid (fun u => (parse_any X (by omega) u).1 T (by rw [hXl]; exact prs_txt hT))
        have hkey : keyOf Tryd.prog 9 (.string X) = some (.string (txt T)) := by
          have := Go.WideMaps.keyOf_string_mk (s := X) Tryd.underlying9 (by unfold maxLen; omega)
          rwa [hXl] at this
        have HKEY := Lib.hid hkey
        have hTi : (T : Int) ≤ 1125899906842624 := by omega
        have HTn := Lib.hid hT
        clear ht hT hX hXl hkey
        go_wp2_with fail
        refine (HTx.out _ (HT.out.below hB)).mono ?_
        rintro e w2 ⟨rfl, h2⟩
        have b2 := hB.trans (h2.mono hB.size)
        have own2 := hown.kept (grown_of_below h2 (some w2.heap.size)) (by have := hown.lt; have := h2.size; simp; omega)
        clear h2 hB hown
        go_wp2_with fail
        refine (HPx.out _).mono ?_
        rintro e w3 ⟨rfl, h3⟩
        have b3 := b2.trans (h3.mono b2.size)
        have own3 := own2.kept (grown_of_below h3 (some w3.heap.size)) (by have := own2.lt; have := h3.size; simp; omega)
        clear h3 b2 own2
        have hkl : k < maxLen := by unfold maxLen; omega
        have HWF : (Lit.int .i64 (T : Int)).wf = true := WalkArith.wf_i64 (by omega)
        have HW := Lib.hid HWF
        clear HWF
        cases hh : Maps.has D (.string (txt T)) with
        | false =>
          go_wp2_with (first
            | (at_lookup; refine wpList_lookup_own_ok_int _ rfl _ _ 49 rfl 9 2 .i64 str_law Tryd.underlying49 Tryd.underlying2 (zero_i64 _) w1.heap.size k D rfl own3 _ _ rfl HKEY.out ?_; intro c hat hwc; clear hat hwc)
            | (at_mapUpdate; refine wpList_mapUpdate_own _ rfl _ _ _ 49 rfl 9 2 str_law Tryd.underlying49 _ w1.heap.size k D rfl own3 hkl _ _ _ rfl rfl HKEY.out _ [] (plainElem_int Tryd.underlying2 HW.out) ?_; intro w4 own4 grow4))
          go_roundw
          case rel => exact ⟨k + 1, _, by omega, hk1, by go_num, own4, goodM_put HG.out own3.isMap HTn.out, b3.grown grow4 b3.size (by rintro j ⟨rfl⟩; exact hz1)⟩
          case measure => simp [intOf]; omega
        | true =>
          have HV := Lib.hid (HG.out T HTn.out hh)
          go_wp2_with (first
            | (at_lookup; refine wpList_lookup_own_ok_int _ rfl _ _ 49 rfl 9 2 .i64 str_law Tryd.underlying49 Tryd.underlying2 (zero_i64 _) w1.heap.size k D rfl own3 _ _ rfl HKEY.out ?_; intro c hat hwc; (have hcT : c = (T : Int) := (by have h := HV.out (.lit (.int .i64 0)); rw [hat] at h; injection h with h; injection h)); subst hcT; clear hat hwc)
            | (at_mapUpdate; refine wpList_mapUpdate_own _ rfl _ _ _ 49 rfl 9 2 str_law Tryd.underlying49 _ w1.heap.size k D rfl own3 hkl _ _ _ rfl rfl HKEY.out _ [] (plainElem_int Tryd.underlying2 HW.out) ?_; intro w4 own4 grow4))
          go_roundw
          case rel => exact ⟨k + 1, _, by omega, hk1, by go_num, own4, goodM_put HG.out own3.isMap HTn.out, b3.grown grow4 b3.size (by rintro j ⟨rfl⟩; exact hz1)⟩
          case measure => simp [intOf]; omega
      | false =>
        have HTx := Lib.hid (fun u => text_bad t u ht)
        clear ht
        go_wp2_with fail
        refine (HTx.out _).mono ?_
        rintro e w2 ⟨rfl, h2⟩
        have b2 := hB.trans (h2.mono hB.size)
        have own2 := hown.kept (grown_of_below h2 (some w2.heap.size)) (by have := hown.lt; have := h2.size; simp; omega)
        clear h2 hB hown
        go_wp2
        go_roundw
        case rel => exact ⟨k + 1, D, by omega, hk1, by go_num, own2.mono (by omega), HG.out, b2⟩
        case measure => simp [intOf]; omega
    · have fin : k = n ∨ (k < n ∧ k = 30) := by omega
      clear hgo hown
      rcases fin with hx | ⟨hx, hy⟩
      · obtain rfl : n = k := hx.symm
        clear hx
        go_wp2_with fail
        go_loopw [71] (fun i wq => ∃ j : Nat, j ≤ n' ∧ j ≤ 30 ∧ i = .int .i64 j ∧ Below w.heap.size w wq) (fun i _ => n' - (intOf i).toNat)
        case atStart => exact ⟨0, by omega, by omega, rfl, hB⟩
        case round =>
          obtain ⟨j, hj, hj30, rfl, hBq⟩ := hrel
          by_cases hjl : j < n'
          · obtain ⟨s, hms⟩ : ∃ s, ss[j]? = some s := ⟨_, List.getElem?_eq_getElem (by have := HL'.out; omega)⟩
            obtain ⟨ad', rfl, hb', c0'⟩ := HR'.out j s hms
            have e0 := (hBq.cell (p := ad'.add j) (by rw [block_of_add]; exact hb')).trans c0'
            have hsz := HSS.out j s hms
            clear c0' hms
            by_cases h30 : j = 30
            · have h30' : ((j : Int) == 30) = true := by simp; omega
              clear h30
              go_wp2
              go_ret
              exact ⟨rfl, hBq⟩
            · have h30' : ((j : Int) == 30) = false := by simp; omega
              have hj1 : j + 1 ≤ 30 := by omega
              have hD : (s.extract 0 (min (s.size : Int) 60).toNat).size ≤ 60 := by rw [Lib.size_eq, Lib.extract_data]; simp; omega
              clear h30
              cases hp : prs (s.extract 0 (min (s.size : Int) 60).toNat).data.toList with
              | none =>
                have HP := Lib.hid (fun u => (parse_any _ (Nat.le_trans hD (by omega)) u).2 hp)
                clear hp hD
                go_wp2_with fail
                refine (HP.out _).mono ?_
                rintro e w2 ⟨rfl, h2⟩
                have b2 := hBq.trans (h2.mono hBq.size)
                clear h2 hBq
                go_wp2
                go_roundw
                case rel => exact ⟨j + 1, by omega, hj1, by go_num, b2⟩
                case measure => simp [intOf]; omega
              | some T =>
                have HP := Lib.hid (fun u => (parse_any _ (Nat.le_trans hD (by omega)) u).1 T hp)
                obtain ⟨hTM, hTx⟩ := prs_some hp
                have HX := fun u hu => text_ok T hTM u hu
                unfold Says at HX
                rw [str_of hTx.symm] at HX
                have HX := Lib.hid HX
                have hTi : (T : Int) ≤ 1125899906842624 := by omega
                clear hp hD hTx hTM
                go_wp2_with fail
                refine (HP.out _).mono ?_
                rintro e w2 ⟨rfl, h2⟩
                have b2 := hBq.trans (h2.mono hBq.size)
                clear h2 hBq
                go_wp2_with fail
                refine (HX.out _ (HT.out.below b2)).mono ?_
                rintro e w3 ⟨rfl, h3⟩
                have b3 := b2.trans (h3.mono b2.size)
                clear h3 b2
                go_wp2
                go_roundw
                case rel => exact ⟨j + 1, by omega, hj1, by go_num, b3⟩
                case measure => simp [intOf]; omega
          · obtain rfl : n' = j := by omega
            go_wp2
            go_ret
            exact ⟨rfl, hBq⟩
      · obtain ⟨t, hm⟩ : ∃ t, ts[k]? = some t := ⟨_, List.getElem?_eq_getElem (by have := HL.out; omega)⟩
        obtain ⟨ad, rfl, hb, c0⟩ := HR.out k t hm
        have d0 := (hB.cell (p := ad.add k) (by rw [block_of_add]; exact hb)).trans c0
        have h30' : ((k : Int) == 30) = true := by simp; omega
        clear c0 hm hy
        go_wp2_with fail
        go_loopw [71] (fun i wq => ∃ j : Nat, j ≤ n' ∧ j ≤ 30 ∧ i = .int .i64 j ∧ Below w.heap.size w wq) (fun i _ => n' - (intOf i).toNat)
        case atStart => exact ⟨0, by omega, by omega, rfl, hB⟩
        case round =>
          obtain ⟨j, hj, hj30, rfl, hBq⟩ := hrel
          by_cases hjl : j < n'
          · obtain ⟨s, hms⟩ : ∃ s, ss[j]? = some s := ⟨_, List.getElem?_eq_getElem (by have := HL'.out; omega)⟩
            obtain ⟨ad', rfl, hb', c0'⟩ := HR'.out j s hms
            have e0 := (hBq.cell (p := ad'.add j) (by rw [block_of_add]; exact hb')).trans c0'
            have hsz := HSS.out j s hms
            clear c0' hms
            by_cases h30 : j = 30
            · have h30' : ((j : Int) == 30) = true := by simp; omega
              clear h30
              go_wp2
              go_ret
              exact ⟨rfl, hBq⟩
            · have h30' : ((j : Int) == 30) = false := by simp; omega
              have hj1 : j + 1 ≤ 30 := by omega
              have hD : (s.extract 0 (min (s.size : Int) 60).toNat).size ≤ 60 := by rw [Lib.size_eq, Lib.extract_data]; simp; omega
              clear h30
              cases hp : prs (s.extract 0 (min (s.size : Int) 60).toNat).data.toList with
              | none =>
                have HP := Lib.hid (fun u => (parse_any _ (Nat.le_trans hD (by omega)) u).2 hp)
                clear hp hD
                go_wp2_with fail
                refine (HP.out _).mono ?_
                rintro e w2 ⟨rfl, h2⟩
                have b2 := hBq.trans (h2.mono hBq.size)
                clear h2 hBq
                go_wp2
                go_roundw
                case rel => exact ⟨j + 1, by omega, hj1, by go_num, b2⟩
                case measure => simp [intOf]; omega
              | some T =>
                have HP := Lib.hid (fun u => (parse_any _ (Nat.le_trans hD (by omega)) u).1 T hp)
                obtain ⟨hTM, hTx⟩ := prs_some hp
                have HX := fun u hu => text_ok T hTM u hu
                unfold Says at HX
                rw [str_of hTx.symm] at HX
                have HX := Lib.hid HX
                have hTi : (T : Int) ≤ 1125899906842624 := by omega
                clear hp hD hTx hTM
                go_wp2_with fail
                refine (HP.out _).mono ?_
                rintro e w2 ⟨rfl, h2⟩
                have b2 := hBq.trans (h2.mono hBq.size)
                clear h2 hBq
                go_wp2_with fail
                refine (HX.out _ (HT.out.below b2)).mono ?_
                rintro e w3 ⟨rfl, h3⟩
                have b3 := b2.trans (h3.mono b2.size)
                clear h3 b2
                go_wp2
                go_roundw
                case rel => exact ⟨j + 1, by omega, hj1, by go_num, b3⟩
                case measure => simp [intOf]; omega
          · obtain rfl : n' = j := by omega
            go_wp2
            go_ret
            exact ⟨rfl, hBq⟩

end Go.Proofs.YtdoplpgmnoefeaaDoor
