/-
  The document's has, Choices and Match; its SameInts of equal rows. No statement is proved here.
-/
import Derived.Test.YtkbgpmgnkegipaaDoorGq
namespace Go.Proofs.YtkbgpmgnkegipaaDoor
open Go.RowKit Go.Maps

set_option maxRecDepth 100000 in
set_option maxHeartbeats 4000000 in
theorem rhas14_any (A : Option Addr) (n c : Nat) (is : List Int) (v : Int) (w : World) (hG : IR w A n is) :
    Calls Tryd.prog 41 #[.slice A n c, .int .i64 v] w (Said (.bool (decide (v ∈ is))) w) := by
  have HL := Lib.hid hG.len
  have HN := hG.small
  have HR := Lib.hid hG
  clear hG
  go_enter Tryd.func41, Tryd.ntmps41
  go_wp2_with fail
  go_loopw [9] (fun iv wr => ∃ k : Nat, k ≤ n ∧ iv = .int .i64 (k : Int) ∧ Hid (v ∉ is.take k) ∧ Below w.heap.size w wr) (fun iv _ => n - (intOf iv).toNat)
  case atStart => exact ⟨0, by omega, rfl, Lib.hid (by simp), Below.refl _ _⟩
  case round =>
    obtain ⟨k, hk, rfl, HA, hB⟩ := hrel
    by_cases hlt : k < n
    · obtain ⟨x, hm⟩ := elem_at (l := is) (k := k) (by rw [HL.out]; exact hlt)
      obtain ⟨ad, rfl, hb1, c0⟩ := (HR.out.below hB).at_ hm
      have i1 : (0 : Int) ≤ (k : Int) := by omega
      have i2 : (k : Int) < (n : Int) := by omega
      by_cases hv : v = x
      · subst hv
        have HV : Hid (decide (v ∈ is) = true) := Lib.hid (decide_eq_true (List.mem_of_getElem? hm))
        have v1 : (v == v) = true := by simp
        clear hm hb1
        go_wp2_with fail
        go_ret
        exact ⟨retB HV.out.symm, hB⟩
      · have HA2 := Lib.hid (not_take hm HA.out hv)
        have v1 : (x == v) = false := by simpa using fun e => hv e.symm
        clear hm hb1 hv
        go_wp2_with fail
        go_roundw
        case rel => exact ⟨k + 1, by omega, by go_num, HA2, hB⟩
        case measure => simp [intOf]; omega
    · obtain rfl : k = n := by omega
      have HV : Hid (decide (v ∈ is) = false) := Lib.hid (decide_eq_false (by have := HA.out; rwa [List.take_of_length_le (by rw [HL.out]; exact Nat.le_refl _)] at this))
      go_wp2
      go_ret
      exact ⟨retB HV.out.symm, hB⟩

/-- of a row's first: each a pCPU, none twice -/
def rowK (row : List Int) (k : Nat) : Prop := (∀ x ∈ row.take k, cpuB x = true) ∧ (row.take k).Nodup
theorem rowK_step {row : List Int} {k : Nat} {x : Int} (hx : row[k]? = some x) (h : rowK row k) (h1 : cpuB x = true) (h2 : x ∉ row.take k) : rowK row (k + 1) := by
  unfold rowK at *
  rw [List.take_add_one, hx]
  refine ⟨fun y hy => ?_, (nodup_snoc h.2).2 h2⟩
  rcases List.mem_append.1 hy with hy | hy
  · exact h.1 y hy
  · rw [show y = x by simpa using hy]; exact h1
theorem rowOk_iff (row : List Int) : rowOk row = true ↔ rowK row row.length := by
  unfold rowOk goodI rowK
  rw [List.take_length, Bool.and_eq_true, List.all_eq_true, decide_eq_true_eq]
theorem rowOk_no1 {row : List Int} {k : Nat} {x : Int} (hx : row[k]? = some x) (h1 : cpuB x = false) : rowOk row = false := by
  cases h : rowOk row with
  | false => rfl
  | true =>
    rw [rowOk_iff, rowK, List.take_length] at h
    rw [h.1 x (List.mem_of_getElem? hx)] at h1; cases h1
theorem rowOk_no2 {row : List Int} {k : Nat} {x : Int} (hx : row[k]? = some x) (h2 : x ∈ row.take k) : rowOk row = false := by
  cases h : rowOk row with
  | false => rfl
  | true =>
    rw [rowOk_iff, rowK, List.take_length] at h
    have h3 : (row.take k ++ row.drop k).Nodup := by rw [List.take_append_drop]; exact h.2
    rw [drop_cons hx, List.nodup_append] at h3
    exact absurd rfl (h3.2.2 x h2 x (by simp))
theorem choices_no {cs : List (List Int)} {k : Nat} {row : List Int} (hx : cs[k]? = some row) (h : rowOk row = false) : choicesB cs = false := by
  unfold choicesB
  rw [show cs.all rowOk = false by rw [List.all_eq_false]; exact ⟨row, List.mem_of_getElem? hx, by simp [h]⟩, Bool.and_false]


/-! ### the first match -/
theorem findSome_at {α β : Type} {l : List α} {f : α → Option β} {j : Nat} {x : α} {b : β} (hx : l[j]? = some x) (hb : f x = some b) (h : ∀ y ∈ l.take j, f y = none) : l.findSome? f = some b := by
  rw [List.findSome?_eq_some_iff]
  refine ⟨l.take j, x, l.drop (j + 1), ?_, hb, h⟩
  rw [← drop_cons hx, List.take_append_drop]
def MSaid (r : Option (List Int)) (T : List Int) (w : World) (e : Ending) (w' : World) : Prop := Below w.heap.size w w' ∧ match r with
  | none => e = .returned (.tuple #[.slice none 0 0, .bool false])
  | some M => ∃ A n c, e = .returned (.tuple #[.slice A n c, .bool true]) ∧ IR w' A n (T ++ M)
def tryF (rest : List (List Int)) (T : List Int) (c : Int) : Option (List Int) := if c ∈ T then none else (matchR rest (T ++ [c])).map fun m => c :: m
theorem match_cons (row : List Int) (rest : List (List Int)) (T : List Int) : matchR (row :: rest) T = row.findSome? (tryF rest T) := rfl

set_option maxRecDepth 100000 in
set_option maxHeartbeats 8000000 in
theorem rmatch_any (A : Option Addr) (n c : Nat) (gs : List Gg) : ∀ (d : Nat) (w : World) (T : List Int) (At : Option Addr) (k ct : Nat), GW w A n gs → IR w At k T → k + d = n →
    Calls Tryd.prog 20 #[.slice A n c, .slice At k ct] w (MSaid (matchR ((gsI gs).drop k) T) T w) := by
  intro d
  induction d with
  | zero =>
    intro w T At k ct hG hT hk
    obtain rfl : k = n := by omega
    have hlen : (gsI gs).length = k := by rw [gsI_len, hG.len]
    rw [List.drop_of_length_le (Nat.le_of_eq hlen)]
    have e0 : ((k : Int) == (k : Int)) = true := by simp
    have HE : Hid (MSaid (matchR [] T) T w (.returned (.tuple #[.slice At k ct, .bool true])) w) := Lib.hid ⟨Below.refl _ _, At, k, ct, rfl, by rw [List.append_nil]; exact hT⟩
    clear hG hT hlen
    go_enter Tryd.func20, Tryd.ntmps20
    go_wp2_with fail
    go_ret2
    exact HE.out
  | succ d ih =>
    intro w T At k ct hG hT hk
    obtain ⟨i0, hi0, hz0, hz1, hz2⟩ := info_parts9 int_info
    obtain ⟨⟨A2, m, c2, is⟩, hx⟩ := elem_at (l := gs) (k := k) (by rw [hG.len]; omega)
    have hdr := drop_cons (gsI_at hx)
    obtain ⟨ad, rfl, _, d0⟩ := hG.at_ hx
    have hI := hG.each _ (List.mem_of_getElem? hx)
    have hm9 : m ≤ 100 := hI.2
    have n9 : n ≤ 100 := hG.small
    have HG := Lib.hid hG
    have HT := Lib.hid hT
    have HI := Lib.hid hI.1
    have HLI : Hid (is.length = m) := Lib.hid hI.1.len
    have HR : Hid (matchR ((gsI gs).drop k) T = is.findSome? (tryF ((gsI gs).drop (k + 1)) T)) := Lib.hid (by rw [hdr]; exact match_cons _ _ _)
    have HIH := Lib.hid (fun (u : World) (x : Int) (Ax : Option Addr) (cx : Nat) (hu : Below w.heap.size w u) (h : IR u Ax (k + 1) (T ++ [x])) => ih u (T ++ [x]) Ax (k + 1) cx (hG.below hu) h (by omega))
    have e0 : ((n : Int) == (k : Int)) = false := by simp; omega
    have i1 : (0 : Int) ≤ (k : Int) := by omega
    have i2 : (k : Int) < (n : Int) := by omega
    have hk9 : k ≤ 100 := by omega
    clear hG hT hx hdr hI ih
    go_enter Tryd.func20, Tryd.ntmps20
    go_wp2_with fail
    clear d0
    go_loopw [22] (fun iv wr => ∃ j : Nat, j ≤ m ∧ iv = .int .i64 (j : Int) ∧ Hid (∀ y ∈ is.take j, tryF ((gsI gs).drop (k + 1)) T y = none) ∧ Below w.heap.size w wr) (fun iv _ => m - (intOf iv).toNat)
    case atStart => exact ⟨0, by omega, rfl, Lib.hid (by simp), Below.refl _ _⟩
    case round =>
      obtain ⟨j, hj, rfl, HA, hB⟩ := hrel
      by_cases hjt : j < m
      · obtain ⟨x, hx⟩ := elem_at (l := is) (k := j) (by rw [HLI.out]; exact hjt)
        obtain ⟨ad2, rfl, _, d1⟩ := (HI.out.below hB).at_ hx
        have HX := Lib.hid hx
        have HB := Lib.hid hB
        have HH := Lib.hid (rhas14_any At k ct T x wr (HT.out.below hB))
        have j0 : (0 : Int) ≤ (j : Int) := by omega
        have j1 : (j : Int) < (m : Int) := by omega
        clear hx hB
        cases hh : decide (x ∈ T) with
        | true =>
          rw [hh] at HH
          have HN : Hid (∀ y ∈ is.take (j + 1), tryF ((gsI gs).drop (k + 1)) T y = none) := Lib.hid (fun y hy => by
            rw [List.take_add_one, HX.out] at hy
            rcases List.mem_append.1 hy with hy | hy
            · exact HA.out y hy
            · rw [show y = x by simpa using hy]; exact if_pos (of_decide_eq_true hh))
          clear hh
          go_wp2_with fail
          refine HH.out.mono ?_
          rintro e w3 ⟨rfl, h9⟩
          have HB3 := Lib.hid (HB.out.trans (h9.mono HB.out.size))
          clear h9 d1
          go_wp2
          go_roundw
          case rel => exact ⟨j + 1, by omega, by go_num, HN, HB3.out⟩
          case measure => simp [intOf] <;> omega
        | false =>
          rw [hh] at HH
          have htry : tryF ((gsI gs).drop (k + 1)) T x = (matchR ((gsI gs).drop (k + 1)) (T ++ [x])).map fun m => x :: m := if_neg (of_decide_eq_false hh)
          have HTRY := Lib.hid htry
          clear hh htry
          go_wp2_with fail
          refine HH.out.mono ?_
          rintro e w3 ⟨rfl, h9⟩
          have HB3 := Lib.hid (HB.out.trans (h9.mono HB.out.size))
          clear h9 d1
          have HC := Lib.hid ((HT.out.below HB3.out).row.alloc (Nat.le_refl _) (.cells #[] 3))
          have HBA := Lib.hid ((Below.refl w3.heap.size w3).alloc (Nat.le_refl _) (.cells #[] 3))
          go_wp2_with (first
            | (at_builtin
               refine wpList_append_any _ rfl (.tmp 31) (.tmp 32) 27 rfl w3.heap.size 3 i0 (.int .i64 0) 1 8 Tryd.underlying27 hi0 hz0 hz1 hz2 rfl (by decide) (.slice (some ⟨w3.heap.size, 0, none⟩) 0 0) 0 [] rfl (by simpa using World.ownsRow_made w3 #[] 0 (Nat.le_refl _) (by simp [maxLen]) (by simp)) _ At k ct (vs T) rfl HC.out (vs_ones _) (by simp only [maxLen]; omega) (by omega) (by simp) ?_
               intro v4 w4 own4 grow4 _
               rw [List.nil_append, Nat.zero_add] at own4
               obtain ⟨A4, c4, rfl, _, _⟩ := own_reads own4
               have HO4 := Lib.hid own4
               have HB4 := Lib.hid (HBA.out.grown grow4 HBA.out.size (fun k hk => by simp [Value.ownBlock] at hk; omega))
               clear own4 grow4)
            | (at_builtin
               refine wpList_append_any _ rfl (.tmp 33) (.tmp 35) 27 rfl w3.heap.size 3 i0 (.int .i64 0) 1 8 Tryd.underlying27 hi0 hz0 hz1 hz2 rfl (by decide) (.slice A4 k c4) k (vs T) rfl (HO4.out.alloc _) _ (some ⟨w4.heap.size, 0, none⟩) 1 1 (vs [x]) rfl (reads_int1 _ _ x rfl) (vs_ones _) (by simp only [maxLen]; omega) (by omega) (by have := HB4.out.size; simp; omega) ?_
               intro v5 w5 own5 grow5 _
               rw [show vs T ++ vs [x] = vs (T ++ [x]) by unfold vs; rw [List.map_append]] at own5
               obtain ⟨A5, c5, rfl, _, _⟩ := own_reads own5
               have HI5 : Hid (IR w5 A5 (k + 1) (T ++ [x])) := Lib.hid ⟨Reads.of_own own5, by omega⟩
               have HB5 := Lib.hid (HB3.out.trans ((((HB4.out.alloc HB4.out.size _).grown grow5 (HB4.out.alloc HB4.out.size _).size (fun j hj => (HO4.out.lt j hj).1))).mono HB3.out.size))
               have HCall := Lib.hid (HIH.out w5 x A5 c5 HB5.out HI5.out)
               clear own5 grow5))
          refine HCall.out.mono ?_
          rintro e w6 ⟨h6, hres⟩
          have HB6 := Lib.hid (HB5.out.trans (h6.mono HB5.out.size))
          clear h6
          cases hr : matchR ((gsI gs).drop (k + 1)) (T ++ [x]) with
          | none =>
            rw [hr] at hres
            obtain rfl := hres
            have HN : Hid (∀ y ∈ is.take (j + 1), tryF ((gsI gs).drop (k + 1)) T y = none) := Lib.hid (fun y hy => by
              rw [List.take_add_one, HX.out] at hy
              rcases List.mem_append.1 hy with hy | hy
              · exact HA.out y hy
              · rw [show y = x by simpa using hy, HTRY.out, hr]; rfl)
            clear hr
            go_wp2
            go_roundw
            case rel => exact ⟨j + 1, by omega, by go_num, HN, HB6.out⟩
            case measure => simp [intOf] <;> omega
          | some M =>
            rw [hr] at hres
            obtain ⟨A6, n6, c6, rfl, hI6⟩ := hres
            have HE : Hid (MSaid (matchR ((gsI gs).drop k) T) T w (.returned (.tuple #[.slice A6 n6 c6, .bool true])) w6) := Lib.hid (by
              rw [HR.out, findSome_at HX.out (b := x :: M) (by rw [HTRY.out, hr]; rfl) HA.out]
              exact ⟨HB6.out, A6, n6, c6, rfl, by rw [List.append_assoc] at hI6; exact hI6⟩)
            clear hr hI6
            go_wp2
            go_ret2
            exact HE.out
      · obtain rfl : j = m := by omega
        have HE : Hid (MSaid (matchR ((gsI gs).drop k) T) T w (.returned (.tuple #[.slice none 0 0, .bool false])) wr) := Lib.hid (by
          rw [HR.out, List.findSome?_eq_none_iff.2 (fun y hy => HA.out y (by rw [List.take_of_length_le (by rw [HLI.out]; exact Nat.le_refl _)]; exact hy))]
          exact ⟨hB, rfl⟩)
        go_wp2
        go_ret2
        exact HE.out

set_option maxRecDepth 100000 in
set_option maxHeartbeats 1000000 in
theorem same_same (A1 A2 : Option Addr) (n c1 c2 : Nat) (l : List Int) (w : World) (h1 : Reads w w.heap.size 1 A1 n (vs l)) (h2 : Reads w w.heap.size 1 A2 n (vs l)) (hn : n ≤ 100000) :
    Calls Tryd.prog 8 #[.slice A1 n c1, .slice A2 n c2] w (Draws (.bool true) w) := by
  go_enter Tryd.func8, Tryd.ntmps8
  go_wp2_with fail
  go_loopw [13] (fun i wr => ∃ k q : Nat, k ≤ n ∧ i = .int .i64 k ∧ wr = w.drewN q) (fun i _ => n - (intOf i).toNat)
  case atStart => exact ⟨0, 0, Nat.zero_le _, rfl, rfl⟩
  case round =>
    obtain ⟨k, q, hk, rfl, rfl⟩ := hrel
    by_cases hlt : k < n
    · obtain ⟨ad, v, rfl, _, hx, hc⟩ := h1.at_ hlt
      obtain ⟨ad', v', rfl, _, hx', hc'⟩ := h2.at_ hlt
      obtain rfl : v = v' := by rw [hx] at hx'; injection hx'
      obtain ⟨x, _, rfl⟩ := vs_at hx
      clear hx hx'
      have j0 : (0 : Int) ≤ (k : Int) := by omega
      have j1 : (k : Int) < (n : Int) := by omega
      go_wp2_with fail
      go_quiet (fail)
      go_wp2
      go_roundw
      case rel => exact ⟨k + 1, q + nq, by omega, by go_num, rfl⟩
      case measure => simp [intOf]; omega
    · obtain rfl : k = n := by omega
      go_wp2
      go_ret
      exact ⟨rfl, _, rfl⟩

end Go.Proofs.YtkbgpmgnkegipaaDoor
