/-
  ClockTexts' walk: times' texts, and which texts are times'.
-/
import Derived.Test.YtdoplpgmnoefeaaDoorRq
import Derived.Test.YtdoplpgmnoefeaaDoorPb
import Derived.Test.YtdoplpgmnoefeaaDoorCh
import Derived.Test.YtdoplpgmnoefeaaDoorCs
namespace Go.Proofs.YtdoplpgmnoefeaaDoor
open Go.RowKit

theorem rp_some {l : List UInt8} {t : Nat} {w w' : World} {e : Ending} (h : prs l = some t) (hp : RP l w e w') : e = .returned (.tuple #[.int .i64 (t : Int), .bool true]) ∧ Below w.heap.size w w' := by
  obtain ⟨x, b, rfl, h1, _, hB⟩ := hp
  obtain ⟨h2, h3⟩ := prs_some h
  obtain ⟨rfl, rfl⟩ := h1 t h2 h3
  exact ⟨rfl, hB⟩
theorem rp_none {l : List UInt8} {w w' : World} {e : Ending} (h : prs l = none) (hp : RP l w e w') : (∃ x : Int, e = .returned (.tuple #[.int .i64 x, .bool false])) ∧ Below w.heap.size w w' := by
  obtain ⟨x, b, rfl, _, h2, hB⟩ := hp
  cases b with
  | false => exact ⟨⟨x, rfl⟩, hB⟩
  | true =>
    obtain ⟨t, ht, e⟩ := h2 rfl
    have := prs_txt ht
    rw [e, h] at this
    cases this

theorem nat_of_rt {t : Int} (h : rt t = true) : ∃ T : Nat, t = (T : Int) ∧ T ≤ 1125899906842624 := by
  obtain ⟨h0, h1⟩ := rt_true h
  exact ⟨t.toNat, by omega, by omega⟩

set_option maxHeartbeats 8000000 in
set_option maxRecDepth 100000 in
theorem texts_walk (A0 B0 : Option Addr) (n c n' c' : Nat) (ts : List Int) (ss : List ByteArray) (w : World) (hl : ts.length = n) (hr : Row1 (Value.int .i64) w A0 ts) (hl' : ss.length = n') (hr' : Row1 Value.string w B0 ss)
    (hss : ∀ (k : Nat) (x : ByteArray), ss[k]? = some x → x.size ≤ maxLen) (hT : Tab w)
    (hk : Calls Tryd.prog 10 #[] w fun e w' => e = .returned (.bool true) ∧ Below w.heap.size w w') (hn : n ≤ maxLen) (hn' : n' ≤ maxLen) :
    Calls Tryd.prog 6 #[.slice A0 n c, .slice B0 n' c'] w fun e w' => e = .returned (.bool true) ∧ Below w.heap.size w w' := by
  unfold maxLen at hn hn' hss
  have HK := Lib.hid hk
  have HR := Lib.hid hr
  have HL := Lib.hid hl
  have HR' := Lib.hid hr'
  have HL' := Lib.hid hl'
  have HSS := Lib.hid hss
  have HT := Lib.hid hT
  clear hk hr hl hr' hl' hss hT
  go_enter Tryd.func6, Tryd.ntmps6
  go_wp2_with fail
  refine HK.out.mono ?_
  rintro e w1 ⟨rfl, hB1⟩
  go_wp2_with fail
  go_loopw [20] (fun i wr => ∃ k : Nat, k ≤ n ∧ k ≤ 30 ∧ i = .int .i64 k ∧ Below w.heap.size w wr) (fun i _ => n - (intOf i).toNat)
  case atStart => exact ⟨0, by omega, by omega, rfl, hB1⟩
  case round =>
    obtain ⟨k, hk, hk30, rfl, hB⟩ := hrel
    by_cases hgo : k < n ∧ k ≠ 30
    · obtain ⟨hlt, h30⟩ := hgo
      obtain ⟨t, hm⟩ : ∃ t, ts[k]? = some t := ⟨_, List.getElem?_eq_getElem (by have := HL.out; omega)⟩
      obtain ⟨ad, rfl, hb, c0⟩ := HR.out k t hm
      have d0 := (hB.cell (p := ad.add k) (by rw [block_of_add]; exact hb)).trans c0
      have h30' : ((k : Int) == 30) = false := by simp; omega
      have hk1 : k + 1 ≤ 30 := by omega
      have HRt := fun u => right_any t u
      clear c0 hm h30
      cases ht : rt t with
      | true =>
        rw [ht] at HRt
        have HRt := Lib.hid HRt
        obtain ⟨T, rfl, hT⟩ := nat_of_rt ht
        have HTx := Lib.hid (fun u hu => text_ok T hT u hu)
        have HRx := Lib.hid (fun u => rtext_any T hT u)
        clear ht hT
        go_wp2_with fail
        refine (HTx.out _ (HT.out.below hB)).mono ?_
        rintro e w2 ⟨rfl, h2⟩
        have b2 := hB.trans (h2.mono hB.size)
        clear h2 hB
        go_wp2_with fail
        refine (HRt.out _).mono ?_
        rintro e w' ⟨rfl, rfl⟩
        go_wp2_with fail
        refine (HRx.out _).mono ?_
        rintro e w3 ⟨rfl, h3⟩
        have b3 := b2.trans (h3.mono b2.size)
        clear h3 b2
        go_wp2
        go_roundw
        case rel => exact ⟨k + 1, by omega, hk1, by go_num, b3⟩
        case measure => simp [intOf]; omega
      | false =>
        rw [ht] at HRt
        have HRt := Lib.hid HRt
        have HTx := Lib.hid (fun u => text_bad t u ht)
        clear ht
        go_wp2_with fail
        refine (HTx.out _).mono ?_
        rintro e w2 ⟨rfl, h2⟩
        have b2 := hB.trans (h2.mono hB.size)
        clear h2 hB
        go_wp2_with fail
        refine (HRt.out _).mono ?_
        rintro e w' ⟨rfl, rfl⟩
        go_wp2
        go_roundw
        case rel => exact ⟨k + 1, by omega, hk1, by go_num, b2⟩
        case measure => simp [intOf]; omega
    · have fin : k = n ∨ (k < n ∧ k = 30) := by omega
      clear hgo
      rcases fin with hx | ⟨hx, hy⟩
      · obtain rfl : n = k := hx.symm
        clear hx
        go_wp2_with fail
        go_loopw [60] (fun i wq => ∃ j : Nat, j ≤ n' ∧ j ≤ 30 ∧ i = .int .i64 j ∧ Below w.heap.size w wq) (fun i _ => n' - (intOf i).toNat)
        case atStart => exact ⟨0, by omega, by omega, rfl, hB⟩
        case round =>
          obtain ⟨j, hj, hj30, rfl, hBq⟩ := hrel
          by_cases hjl : j < n'
          · obtain ⟨s, hms⟩ : ∃ s, ss[j]? = some s := ⟨_, List.getElem?_eq_getElem (by have := HL'.out; omega)⟩
            obtain ⟨ad', rfl, hb', c0'⟩ := HR'.out j s hms
            have e0 := (hBq.cell (p := ad'.add j) (by rw [block_of_add]; exact hb')).trans c0'
            have hsz := HSS.out j s hms
            clear c0' hms
            by_cases h30 : j = 30
            · have h30' : ((j : Int) == 30) = true := by simp; omega
              clear h30
              go_wp2
              go_ret
              exact ⟨rfl, hBq⟩
            · have h30' : ((j : Int) == 30) = false := by simp; omega
              have hj1 : j + 1 ≤ 30 := by omega
              clear h30
              have key : ∀ D : ByteArray, D.size ≤ 60 → (∃ tt ee : Int, ∃ xx : Int, ∃ bb : Bool, (∀ u, Calls Tryd.prog 28 #[.string D] u (Two tt ee u)) ∧ (∀ u, Calls Tryd.prog 29 #[.string D] u fun e w' => (∃ x, e = .returned (.tuple #[.int .i64 x, .bool bb]) ∧ (bb = true → x = xx)) ∧ Below u.heap.size u w') ∧ ((bb = true ∧ ee = 0 ∧ tt = xx) ∨ (bb = false ∧ ee = 2 ∧ tt = 0))) := fun D hD => by
                cases hp : prs D.data.toList with
                | some t => exact ⟨t, 0, t, true, fun u => (parse_any D (by omega) u).1 t hp, fun u => (rparse_any D (by omega) u).mono (fun e w' h => ⟨⟨t, (rp_some hp h).1, fun _ => rfl⟩, (rp_some hp h).2⟩), .inl ⟨rfl, rfl, rfl⟩⟩
                | none => exact ⟨0, 2, 0, false, fun u => (parse_any D (by omega) u).2 hp, fun u => (rparse_any D (by omega) u).mono (fun e w' h => ⟨(rp_none hp h).1.elim fun x hx => ⟨x, hx, fun hb => by cases hb⟩, (rp_none hp h).2⟩), .inr ⟨rfl, rfl, rfl⟩⟩
              have KEY := Lib.hid key
              clear key
              obtain ⟨tt, ee, xx, bb, hP, hR, hc⟩ := KEY.out (s.extract 0 (min (s.size : Int) 60).toNat) (by rw [Lib.size_eq, Lib.extract_data]; simp; omega)
              have HP := Lib.hid hP
              have HRr := Lib.hid hR
              clear hP hR
              rcases hc with ⟨rfl, rfl, rfl⟩ | ⟨rfl, rfl, rfl⟩
              · go_wp2_with fail
                refine (HP.out _).mono ?_
                rintro e w2 ⟨rfl, h2⟩
                have b2 := hBq.trans (h2.mono hBq.size)
                clear h2 hBq
                go_wp2_with fail
                refine (HRr.out _).mono ?_
                rintro e w3 ⟨⟨x, rfl, hx⟩, h3⟩
                have b3 := b2.trans (h3.mono b2.size)
                obtain rfl := hx trivial
                clear h3 b2
                go_wp2
                go_roundw
                case rel => exact ⟨j + 1, by omega, hj1, by go_num, b3⟩
                case measure => simp [intOf]; omega
              · go_wp2_with fail
                refine (HP.out _).mono ?_
                rintro e w2 ⟨rfl, h2⟩
                have b2 := hBq.trans (h2.mono hBq.size)
                clear h2 hBq
                go_wp2_with fail
                refine (HRr.out _).mono ?_
                rintro e w3 ⟨⟨x, rfl, hx⟩, h3⟩
                have b3 := b2.trans (h3.mono b2.size)
                clear hx
                clear h3 b2
                go_wp2
                go_roundw
                case rel => exact ⟨j + 1, by omega, hj1, by go_num, b3⟩
                case measure => simp [intOf]; omega
          · obtain rfl : n' = j := by omega
            go_wp2
            go_ret
            exact ⟨rfl, hBq⟩
      · obtain ⟨t, hm⟩ : ∃ t, ts[k]? = some t := ⟨_, List.getElem?_eq_getElem (by have := HL.out; omega)⟩
        obtain ⟨ad, rfl, hb, c0⟩ := HR.out k t hm
        have d0 := (hB.cell (p := ad.add k) (by rw [block_of_add]; exact hb)).trans c0
        have h30' : ((k : Int) == 30) = true := by simp; omega
        clear c0 hm hy
        go_wp2_with fail
        go_loopw [60] (fun i wq => ∃ j : Nat, j ≤ n' ∧ j ≤ 30 ∧ i = .int .i64 j ∧ Below w.heap.size w wq) (fun i _ => n' - (intOf i).toNat)
        case atStart => exact ⟨0, by omega, by omega, rfl, hB⟩
        case round =>
          obtain ⟨j, hj, hj30, rfl, hBq⟩ := hrel
          by_cases hjl : j < n'
          · obtain ⟨s, hms⟩ : ∃ s, ss[j]? = some s := ⟨_, List.getElem?_eq_getElem (by have := HL'.out; omega)⟩
            obtain ⟨ad', rfl, hb', c0'⟩ := HR'.out j s hms
            have e0 := (hBq.cell (p := ad'.add j) (by rw [block_of_add]; exact hb')).trans c0'
            have hsz := HSS.out j s hms
            clear c0' hms
            by_cases h30 : j = 30
            · have h30' : ((j : Int) == 30) = true := by simp; omega
              clear h30
              go_wp2
              go_ret
              exact ⟨rfl, hBq⟩
            · have h30' : ((j : Int) == 30) = false := by simp; omega
              have hj1 : j + 1 ≤ 30 := by omega
              clear h30
              have key : ∀ D : ByteArray, D.size ≤ 60 → (∃ tt ee : Int, ∃ xx : Int, ∃ bb : Bool, (∀ u, Calls Tryd.prog 28 #[.string D] u (Two tt ee u)) ∧ (∀ u, Calls Tryd.prog 29 #[.string D] u fun e w' => (∃ x, e = .returned (.tuple #[.int .i64 x, .bool bb]) ∧ (bb = true → x = xx)) ∧ Below u.heap.size u w') ∧ ((bb = true ∧ ee = 0 ∧ tt = xx) ∨ (bb = false ∧ ee = 2 ∧ tt = 0))) := fun D hD => by
                cases hp : prs D.data.toList with
                | some t => exact ⟨t, 0, t, true, fun u => (parse_any D (by omega) u).1 t hp, fun u => (rparse_any D (by omega) u).mono (fun e w' h => ⟨⟨t, (rp_some hp h).1, fun _ => rfl⟩, (rp_some hp h).2⟩), .inl ⟨rfl, rfl, rfl⟩⟩
                | none => exact ⟨0, 2, 0, false, fun u => (parse_any D (by omega) u).2 hp, fun u => (rparse_any D (by omega) u).mono (fun e w' h => ⟨(rp_none hp h).1.elim fun x hx => ⟨x, hx, fun hb => by cases hb⟩, (rp_none hp h).2⟩), .inr ⟨rfl, rfl, rfl⟩⟩
              have KEY := Lib.hid key
              clear key
              obtain ⟨tt, ee, xx, bb, hP, hR, hc⟩ := KEY.out (s.extract 0 (min (s.size : Int) 60).toNat) (by rw [Lib.size_eq, Lib.extract_data]; simp; omega)
              have HP := Lib.hid hP
              have HRr := Lib.hid hR
              clear hP hR
              rcases hc with ⟨rfl, rfl, rfl⟩ | ⟨rfl, rfl, rfl⟩
              · go_wp2_with fail
                refine (HP.out _).mono ?_
                rintro e w2 ⟨rfl, h2⟩
                have b2 := hBq.trans (h2.mono hBq.size)
                clear h2 hBq
                go_wp2_with fail
                refine (HRr.out _).mono ?_
                rintro e w3 ⟨⟨x, rfl, hx⟩, h3⟩
                have b3 := b2.trans (h3.mono b2.size)
                obtain rfl := hx trivial
                clear h3 b2
                go_wp2
                go_roundw
                case rel => exact ⟨j + 1, by omega, hj1, by go_num, b3⟩
                case measure => simp [intOf]; omega
              · go_wp2_with fail
                refine (HP.out _).mono ?_
                rintro e w2 ⟨rfl, h2⟩
                have b2 := hBq.trans (h2.mono hBq.size)
                clear h2 hBq
                go_wp2_with fail
                refine (HRr.out _).mono ?_
                rintro e w3 ⟨⟨x, rfl, hx⟩, h3⟩
                have b3 := b2.trans (h3.mono b2.size)
                clear hx
                clear h3 b2
                go_wp2
                go_roundw
                case rel => exact ⟨j + 1, by omega, hj1, by go_num, b3⟩
                case measure => simp [intOf]; omega
          · obtain rfl : n' = j := by omega
            go_wp2
            go_ret
            exact ⟨rfl, hBq⟩

end Go.Proofs.YtdoplpgmnoefeaaDoor
