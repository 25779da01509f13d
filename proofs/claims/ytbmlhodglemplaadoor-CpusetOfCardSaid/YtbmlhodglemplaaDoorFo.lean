/-
  CpusetOf's walk: sets of numbers, and of the first ones.
-/
import Derived.Test.YtbmlhodglemplaaDoorOg
namespace Go.Proofs.YtbmlhodglemplaaDoor
open Go.RowKit

theorem inner_at {l : List Inner} {k : Nat} {v : Value} (h : (l.map Inner.val)[k]? = some v) : ∃ x, l[k]? = some x ∧ v = .slice x.A x.n x.c := by
  rw [List.getElem?_map] at h
  cases hl : l[k]? with
  | none => rw [hl] at h; cases h
  | some x => rw [hl] at h; injection h with h; exact ⟨x, rfl, h.symm⟩
theorem ofE_cases (l : List Int) : (∃ s, ofE l = (s, 0) ∧ ofV l 0 = (s, true)) ∨ (ofE l = (0, 2) ∧ ∃ s, ofV l 0 = (s, false) ∧ s = 0) := by
  have h0 : ∀ (l : List Int) (s : Int), (ofV l s).2 = false → (ofV l s).1 = 0 := by
    intro l
    induction l with
    | nil => intro s h; cases h
    | cons x l ih =>
      intro s h
      unfold ofV at h ⊢
      split at h
      · split at h
        · rename_i h1 h2; rw [if_pos h1, if_pos h2]; exact ih _ h
        · rename_i h1 h2; rw [if_pos h1, if_neg h2]; exact ih _ h
      · rename_i h1; rw [if_neg h1]
  obtain ⟨a, b, hab⟩ : ∃ a b, ofV l 0 = (a, b) := ⟨_, _, rfl⟩
  cases b with
  | true => exact .inl ⟨a, ofE_yes hab, hab⟩
  | false =>
    have ha := h0 l 0 (by rw [hab])
    rw [hab] at ha
    have ha : a = 0 := ha
    subst ha
    exact .inr ⟨ofE_no hab, 0, hab, rfl⟩

set_option maxHeartbeats 8000000 in
set_option maxRecDepth 100000 in
theorem ofs_walk (A0 : Option Addr) (n c : Nat) (rs : List Inner) (B0 : Option Addr) (n' c' : Nat) (ns : List Int) (w : World) (hr : Reads w w.heap.size 1 A0 n (rs.map Inner.val)) (hu : ∀ (k : Nat) (x : Inner), rs[k]? = some x → x.ok w) (hn : n ≤ maxLen)
    (hr' : Reads w w.heap.size 1 B0 n' (vs ns)) (hn' : n' ≤ maxLen)
    (hk : Calls Tryd.prog 10 #[] w fun e w' => e = .returned (.bool true) ∧ Below w.heap.size w w') :
    Calls Tryd.prog 3 #[.slice A0 n c, .slice B0 n' c'] w fun e w' => e = .returned (.bool true) ∧ Below w.heap.size w w' := by
  unfold maxLen at hn hn'
  have HK := Lib.hid hk
  have HR := Lib.hid hr
  have HU := Lib.hid hu
  have HS := Lib.hid hr'
  clear hk hr hu hr'
  go_enter Tryd.func3, Tryd.ntmps3
  go_wp2_with fail
  refine HK.out.mono ?_
  rintro e w1 ⟨rfl, hB1⟩
  clear HK
  go_wp2_with fail
  go_loopw [20] (fun i wr => ∃ k : Nat, k ≤ n ∧ k ≤ 10 ∧ i = .int .i64 k ∧ Below w.heap.size w wr) (fun i _ => n - (intOf i).toNat)
  case atStart => exact ⟨0, by omega, by omega, rfl, hB1⟩
  case round =>
    clear hB1
    obtain ⟨k, hk, hk10, rfl, hB⟩ := hrel
    by_cases hlt : k < n
    · obtain ⟨ad, v, rfl, _, hx, hc⟩ := (HR.out.below hB).at_ hlt
      obtain ⟨x, hs, rfl⟩ := inner_at hx
      obtain ⟨x1, x2, x3⟩ := HU.out k x hs
      have j0 : (0 : Int) ≤ (k : Int) := by omega
      have j1 : (k : Int) < (n : Int) := by omega
      clear hx hs
      by_cases h10 : k = 10
      · have h10' : ((k : Int) == 10) = true := by simp; omega
        clear h10 hk10 x1 x2 x3
        go_wp2_with fail
        go_loopw [72] (fun i wr => ∃ j : Nat, j ≤ n' ∧ j ≤ 20 ∧ i = .int .i64 j ∧ Below w.heap.size w wr) (fun i _ => n' - (intOf i).toNat)
        case atStart => exact ⟨0, by omega, by omega, rfl, hB⟩
        case round =>
          clear hB
          obtain ⟨j, hj, hj20, rfl, hB⟩ := hrel
          by_cases hjt : j < n'
          · obtain ⟨ad', v', rfl, _, hx', hc'⟩ := (HS.out.below hB).at_ hjt
            obtain ⟨m, hm, rfl⟩ := vs_at hx'
            have j2 : (0 : Int) ≤ (j : Int) := by omega
            have j3 : (j : Int) < (n' : Int) := by omega
            clear hx' hm
            by_cases h20 : j = 20
            · have h20' : ((j : Int) == 20) = true := by simp; omega
              clear h20 hj20
              go_wp2
              go_ret
              exact ⟨rfl, hB⟩
            · have h20' : ((j : Int) == 20) = false := by simp; omega
              have J20 : Hid (j + 1 ≤ 20) := Lib.hid (by omega)
              have JLT := Lib.hid hjt
              have HF := Lib.hid (fun u => first_any m u)
              by_cases h0 : m < 0
              · rw [show firstV m = (0, 2) from if_pos (.inl h0)] at HF
                clear h20 hj20
                go_wp2_with fail
                refine (HF.out _).mono ?_
                rintro e w' ⟨rfl, rfl⟩
                go_wp2
                go_roundw
                case rel => exact ⟨j + 1, JLT.out, J20.out, by go_num, hB⟩
                case measure => have := JLT.out; simp [intOf]; omega
              · by_cases h8 : 8 < m
                · rw [show firstV m = (0, 2) from if_pos (.inr h8)] at HF
                  clear h20 hj20
                  go_wp2_with fail
                  refine (HF.out _).mono ?_
                  rintro e w' ⟨rfl, rfl⟩
                  go_wp2
                  go_roundw
                  case rel => exact ⟨j + 1, JLT.out, J20.out, by go_num, hB⟩
                  case measure => have := JLT.out; simp [intOf]; omega
                · rw [show firstV m = (2 ^ m.toNat - 1, 0) from if_neg (by omega)] at HF
                  have g0 := two_pos m.toNat
                  have g1 : (2 : Int) ^ m.toNat ≤ 256 := two_le8 (by omega)
                  have g2 : m ≤ 32 := by omega
                  have g3 : 0 ≤ m := by omega
                  clear h20 hj20
                  go_wp2_with fail
                  refine (HF.out _).mono ?_
                  rintro e w' ⟨rfl, rfl⟩
                  go_wp2
                  go_roundw
                  case rel => exact ⟨j + 1, JLT.out, J20.out, by go_num, hB⟩
                  case measure => have := JLT.out; simp [intOf]; omega
          · obtain rfl : n' = j := by omega
            clear hj20
            go_wp2
            go_ret
            exact ⟨rfl, hB⟩
      · have h10' : ((k : Int) == 10) = false := by simp; omega
        have H10 : Hid (k + 1 ≤ 10) := Lib.hid (by omega)
        have HLT := Lib.hid hlt
        obtain ⟨XA, xn, xc, xl⟩ := x
        have x1 : xl.length = xn := x1
        have x3 : xn ≤ xc := x3
        have HFew := Lib.hid (fun (u : World) (h : Below w.heap.size w u) => few_any XA xn xc xl u x1 ((show Reads w w.heap.size 1 XA xn (vs xl) from x2).below h |>.more h.size) x3)
        have hl30 : (xl.take 30).length ≤ 30 := by rw [List.length_take]; omega
        have HO := Lib.hid (fun (A : Option Addr) (c : Nat) (u : World) (h : Reads u u.heap.size 1 A (xl.take 30).length (vs (xl.take 30))) => of_any A c (xl.take 30) u (by omega) h)
        have HP := Lib.hid (fun (A : Option Addr) (c : Nat) (u : World) (h : Reads u u.heap.size 1 A (xl.take 30).length (vs (xl.take 30))) => rof_any A c (xl.take 30) u (by omega) h)
        have HM := Lib.hid (fun (A A' : Option Addr) (c c' : Nat) (u : World) (h : Reads u u.heap.size 1 A (xl.take 30).length (vs (xl.take 30))) (h' : Reads u u.heap.size 1 A' (xl.take 30).length (vs (xl.take 30))) => same_same A A' (xl.take 30).length c c' (xl.take 30) u h h' (by omega))
        have hcs := ofE_cases (xl.take 30)
        generalize xl.take 30 = L at *
        clear h10 hk10 x1 x2 x3 hl30
        obtain ⟨a, b, q, hE, hV, hcase⟩ : ∃ (a b : Int) (q : Bool), ofE L = (a, b) ∧ ofV L 0 = (a, q) ∧ ((q = true ∧ b = 0) ∨ (q = false ∧ a = 0 ∧ b = 2)) := by
          rcases hcs with ⟨s, h1, h2⟩ | ⟨h1, s, h2, h3⟩
          · exact ⟨s, 0, true, h1, h2, .inl ⟨rfl, rfl⟩⟩
          · subst h3; exact ⟨0, 2, false, h1, h2, .inr ⟨rfl, rfl, rfl⟩⟩
        rw [hE] at HO
        rw [hV] at HP
        clear hcs hE hV
        rcases hcase with ⟨rfl, rfl⟩ | ⟨rfl, rfl, rfl⟩
        all_goals
          go_wp2_with fail
          refine (HFew.out _ hB).mono ?_
          rintro e w2 ⟨A2, c2, rfl, hO2, h2⟩
          have R2 := Reads.of_own hO2
          have b2 := hB.trans (h2.mono hB.size)
          clear hO2 h2 hB hc
          go_wp2_with fail
          refine (HO.out _ _ _ R2).mono ?_
          rintro e w' ⟨rfl, rfl⟩
          go_wp2_with fail
          refine (HFew.out _ b2).mono ?_
          rintro e w3 ⟨A3, c3, rfl, hO3, h3⟩
          have R3 := Reads.of_own hO3
          have S3 := (R2.below h3).more h3.size
          have b3 := b2.trans (h3.mono b2.size)
          clear hO3 h3 b2 R2
          go_wp2_with fail
          refine (HP.out _ _ _ R3).mono ?_
          rintro e w4 ⟨rfl, h4⟩
          have S4 := (S3.below h4).more h4.size
          have b4 := b3.trans (h4.mono b3.size)
          clear h4 b3 R3 S3
          go_wp2_with fail
          refine (HFew.out _ b4).mono ?_
          rintro e w5 ⟨A5, c5, rfl, hO5, h5⟩
          have R5 := Reads.of_own hO5
          have S5 := (S4.below h5).more h5.size
          have b5 := b4.trans (h5.mono b4.size)
          clear hO5 h5 b4 S4
          go_wp2_with fail
          refine (HM.out _ _ _ _ _ S5 R5).mono ?_
          rintro e w' ⟨rfl, m6, rfl⟩
          go_wp2
          go_roundw
          case rel => exact ⟨k + 1, HLT.out, H10.out, by go_num, below_drewN b5 _⟩
          case measure => have := HLT.out; simp [intOf]; omega
    · obtain rfl : n = k := by omega
      clear hk10
      go_wp2_with fail
      go_loopw [72] (fun i wr => ∃ j : Nat, j ≤ n' ∧ j ≤ 20 ∧ i = .int .i64 j ∧ Below w.heap.size w wr) (fun i _ => n' - (intOf i).toNat)
      case atStart => exact ⟨0, by omega, by omega, rfl, hB⟩
      case round =>
        clear hB
        obtain ⟨j, hj, hj20, rfl, hB⟩ := hrel
        by_cases hjt : j < n'
        · obtain ⟨ad', v', rfl, _, hx', hc'⟩ := (HS.out.below hB).at_ hjt
          obtain ⟨m, hm, rfl⟩ := vs_at hx'
          have j2 : (0 : Int) ≤ (j : Int) := by omega
          have j3 : (j : Int) < (n' : Int) := by omega
          clear hx' hm
          by_cases h20 : j = 20
          · have h20' : ((j : Int) == 20) = true := by simp; omega
            clear h20 hj20
            go_wp2
            go_ret
            exact ⟨rfl, hB⟩
          · have h20' : ((j : Int) == 20) = false := by simp; omega
            have J20 : Hid (j + 1 ≤ 20) := Lib.hid (by omega)
            have JLT := Lib.hid hjt
            have HF := Lib.hid (fun u => first_any m u)
            by_cases h0 : m < 0
            · rw [show firstV m = (0, 2) from if_pos (.inl h0)] at HF
              clear h20 hj20
              go_wp2_with fail
              refine (HF.out _).mono ?_
              rintro e w' ⟨rfl, rfl⟩
              go_wp2
              go_roundw
              case rel => exact ⟨j + 1, JLT.out, J20.out, by go_num, hB⟩
              case measure => have := JLT.out; simp [intOf]; omega
            · by_cases h8 : 8 < m
              · rw [show firstV m = (0, 2) from if_pos (.inr h8)] at HF
                clear h20 hj20
                go_wp2_with fail
                refine (HF.out _).mono ?_
                rintro e w' ⟨rfl, rfl⟩
                go_wp2
                go_roundw
                case rel => exact ⟨j + 1, JLT.out, J20.out, by go_num, hB⟩
                case measure => have := JLT.out; simp [intOf]; omega
              · rw [show firstV m = (2 ^ m.toNat - 1, 0) from if_neg (by omega)] at HF
                have g0 := two_pos m.toNat
                have g1 : (2 : Int) ^ m.toNat ≤ 256 := two_le8 (by omega)
                have g2 : m ≤ 32 := by omega
                have g3 : 0 ≤ m := by omega
                clear h20 hj20
                go_wp2_with fail
                refine (HF.out _).mono ?_
                rintro e w' ⟨rfl, rfl⟩
                go_wp2
                go_roundw
                case rel => exact ⟨j + 1, JLT.out, J20.out, by go_num, hB⟩
                case measure => have := JLT.out; simp [intOf]; omega
        · obtain rfl : n' = j := by omega
          clear hj20
          go_wp2
          go_ret
          exact ⟨rfl, hB⟩

end Go.Proofs.YtbmlhodglemplaaDoor
