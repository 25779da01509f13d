/-
  The landed pool: Join's closure; the library's Or; why not. No statement is proved here.
-/
import Derived.Test.YtnckfgnhlnichaaDoorPi
namespace Go.Proofs.YtnckfgnhlnichaaDoor
open Go.RowKit

theorem join_upto {l : List Nat} {a b : Nat} (hab : b ≠ a) (hb : b < l.length) : ∀ k, k ≤ l.length → joinK l a b k = if a < k then ((l.set b (l.getD b 0 + l.getD a 0)).take a ++ ((l.set b (l.getD b 0 + l.getD a 0)).take k).drop (a + 1)) else (l.set b (l.getD b 0 + l.getD a 0)).take k := by
  intro k
  induction k with
  | zero => intro _; rw [if_neg (by omega)]; rfl
  | succ k ih =>
    intro hk
    have ih := ih (by omega)
    have hv : (l.set b (l.getD b 0 + l.getD a 0))[k]? = some (if k = b then l.getD k 0 + l.getD a 0 else l.getD k 0) := by
      by_cases hkb : k = b
      · subst hkb; rw [List.getElem?_set_self (by omega), if_pos rfl]
      · rw [List.getElem?_set_ne (Ne.symm hkb), if_neg hkb]; exact at_getD (by omega)
    generalize l.set b (l.getD b 0 + l.getD a 0) = L at *
    unfold joinK
    by_cases hka : k = a
    · rw [if_pos hka, ih, if_neg (by omega), if_pos (by omega), hka]
      rw [List.drop_eq_nil_of_le (by rw [List.length_take]; omega), List.append_nil]
    · rw [if_neg hka, ih]
      have ht : L.take (k + 1) = L.take k ++ [if k = b then l.getD k 0 + l.getD a 0 else l.getD k 0] := by rw [List.take_add_one, hv]; rfl
      generalize (if k = b then l.getD k 0 + l.getD a 0 else l.getD k 0) = v at *
      have hl : k ≤ L.length := by have := (List.getElem?_eq_some_iff.1 hv).1; omega
      by_cases h : a < k
      · rw [if_pos h, if_pos (by omega), ht, List.drop_append_of_le_length (by rw [List.length_take]; omega), List.append_assoc]
      · rw [if_neg h, if_neg (by omega), ht]
theorem join_erase {l : List Nat} {a b : Nat} (ha : a < l.length) (hb : b < l.length) (hab : b ≠ a) : joinK l a b l.length = (l.set b (l.getD b 0 + l.getD a 0)).eraseIdx a := by
  rw [join_upto hab hb _ (Nat.le_refl _), if_pos ha, List.eraseIdx_eq_take_drop_succ]
  congr 2
  rw [List.take_of_length_le (by rw [List.length_set]; exact Nat.le_refl _)]

set_option maxRecDepth 100000 in
set_option maxHeartbeats 4000000 in
theorem ljoindo_any (b : Nat) (p : Addr) (n c i a bi ba x y z : Nat) (l : List Nat) (w : World) (hRow : Row w b p n c l) (hi : l[i]? = some x) (ha : l[a]? = some y) (ki : w.cell? ⟨bi, 0, none⟩ = some (.int .i64 (i : Int))) (ka : w.cell? ⟨ba, 0, none⟩ = some (.int .i64 (a : Int)))
    (hba : ba < b) (hn : n ≤ 1000) (hnc : n ≤ c) (hor : bits .or .u32 (x : Int) (y : Int) = (z : Int)) :
    Calls Tryd.prog 30 #[.slice (some p) n c, .pointer (some ⟨bi, 0, none⟩), .pointer (some ⟨ba, 0, none⟩)] w (Does b ((l.set i z).eraseIdx a) w) := by
  have hl := hRow.len
  have hil := (List.getElem?_eq_some_iff.1 hi).1
  have hal := (List.getElem?_eq_some_iff.1 ha).1
  have i0 : (0 : Int) ≤ (i : Int) := by omega
  have i1 : (i : Int) < (n : Int) := by omega
  have a0 : (0 : Int) ≤ (a : Int) := by omega
  have a1 : (a : Int) < (n : Int) := by omega
  have d1 : w.drew.cell? ⟨bi, 0, none⟩ = some (.int .i64 (i : Int)) := ki
  have d2 : w.drew.cell? ⟨ba, 0, none⟩ = some (.int .i64 (a : Int)) := ka
  have d3 := hRow.drew.cell hi
  have d4 := hRow.drew.frozen i
  have d5 := hRow.drew.cell ha
  have HL : Hid (((l.set i z).eraseIdx a).length = n - 1) := Lib.hid (by rw [List.length_eraseIdx, List.length_set, if_pos hal, hl])
  have HR1 := Lib.hid (hRow.put i z).drew
  have HB1 : Hid (Below b w (w.setCell (p.add i) (.int .u32 (z : Int))).drew) := Lib.hid (hRow.down (Below.refl b w) i z).drew
  have HKs := Lib.hid (fun (u : World) (h : Below b w u) => show u.cell? ⟨ba, 0, none⟩ = some (.int .i64 (a : Int)) from (h.cell (p := ⟨ba, 0, none⟩) hba).trans ka)
  have HDe := Lib.hid (fun (u : World) (h : Row u b p n c (l.set i z)) => ldelete_any b p n c a (l.set i z) u h (by omega) hn hnc)
  have n9 : n ≤ 1000 := hn
  have wa : IntKind.i64.wrap ((a : Int) + 1) = (a : Int) + 1 := by rw [IntKind.wrap_i64]; omega
  clear hRow hl hil hal hi ha ki ka hba hn hnc
  go_enter Tryd.func30, Tryd.ntmps30
  go_upto_region 1 with fail
  go_region
  have HW1 := Lib.hid (And.intro HR1.out HB1.out)
  clear HR1 HB1 d1 d2 d3 d4 d5
  generalize (w.setCell (p.add i) (.int .u32 (z : Int))).drew = W1 at HW1 ⊢
  have e1 := HKs.out _ HW1.out.2
  go_wp2_with fail
  refine (HDe.out _ HW1.out.1).mono ?_
  rintro e w2 ⟨rfl, own2, h2⟩
  have HT := Lib.hid (And.intro own2 (HW1.out.2.trans h2))
  clear own2 h2
  go_wp2
  go_ret
  exact ⟨some p, c, by rw [HL.out]; rfl, by rw [HL.out]; exact HT.out.1, HT.out.2⟩

/-- the first that is not nought -/
def orL : List Int → Int
  | [] => 0
  | a :: t => if a = 0 then orL t else a
theorem or_skip {l : List Int} {k : Nat} {x : Int} (h : l[k]? = some x) (hx : x = 0) : orL (l.drop k) = orL (l.drop (k + 1)) := by
  rw [drop_at h]; exact if_pos hx
theorem or_hit {l : List Int} {k : Nat} {x : Int} (h : l[k]? = some x) (hx : ¬ x = 0) : orL (l.drop k) = x := by
  rw [drop_at h]; exact if_neg hx

set_option maxRecDepth 100000 in
set_option maxHeartbeats 1000000 in
theorem orE_any (A : Option Addr) (n c : Nat) (l : List Int) (w : World) (hR : Reads w w.heap.size 1 A n (vs l)) (hn : n ≤ 1000) :
    Calls Tryd.prog 35 #[.slice A n c] w fun e w' => e = .returned (.int .i64 (orL l)) ∧ w = w' := by
  have hl : l.length = n := by have := hR.1; rw [length_vs] at this; omega
  have HL := Lib.hid hl
  have HR := Lib.hid hR
  generalize hE : orL l = E
  have HE := Lib.hid hE
  clear hR hE hl
  go_enter Tryd.func35, Tryd.ntmps35
  go_wp2_with fail
  go_loopw [8] (fun i wr => ∃ k : Nat, k ≤ n ∧ i = .int .i64 (k : Int) ∧ Hid (orL (l.drop k) = E) ∧ wr = w) (fun i _ => n - (intOf i).toNat)
  case atStart => exact ⟨0, by omega, rfl, Lib.hid (by rw [List.drop_zero]; exact HE.out), rfl⟩
  case round =>
    obtain ⟨k, hk, rfl, HA, rfl⟩ := hrel
    by_cases hlt : k < n
    · obtain ⟨ad, u, rfl, hb, hu, d0⟩ := HR.out.at_ hlt
      obtain ⟨x, hm, rfl⟩ := vs_at hu
      have HT := Lib.hid hm
      clear hm hu
      by_cases hx : x = 0
      · have hz : (x == 0) = true := by simp [hx]
        have HN : Hid (orL (l.drop (k + 1)) = E) := Lib.hid (by rw [← HA.out, or_skip HT.out hx])
        clear hx
        go_wp2
        go_roundw
        case rel => exact ⟨k + 1, by omega, by go_num, HN, by first | rfl | trivial⟩
        case measure => simp [intOf] <;> omega
      · have hz : (x == 0) = false := by simp [hx]
        have HN : Hid (x = E) := Lib.hid (by rw [← HA.out, or_hit HT.out hx])
        clear hx
        go_wp2
        go_ret
        exact ⟨retI HN.out, rfl⟩
    · obtain rfl : n = k := by omega
      have HN : Hid (0 = E) := Lib.hid (by rw [← HA.out, ← HL.out, List.drop_length]; rfl)
      go_wp2
      go_ret
      exact ⟨retI HN.out, rfl⟩

end Go.Proofs.YtnckfgnhlnichaaDoor
