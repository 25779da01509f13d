/-
  The landed place: Home. No statement is proved here.
-/
import Derived.Test.YtldleijocjohgaaDoorGj
namespace Go.Proofs.YtldleijocjohgaaDoor
open Go.RowKit

def homeB (F : Nat → Int) (p : Int × Int) : Bool := (ofV F p.1).2 && (ofV F p.1).1 == p.2
def homeL (F : Nat → Int) (ps : List (Int × Int)) : List Int := (ps.filter (homeB F)).map (·.1)
theorem home_yes {F : Nat → Int} {ps : List (Int × Int)} {k : Nat} {p : Int × Int} (hk : ps[k]? = some p) (h : homeB F p = true) : homeL F (ps.take (k + 1)) = homeL F (ps.take k) ++ [p.1] := by
  unfold homeL
  rw [List.take_add_one, hk]
  simp [h]
theorem home_no {F : Nat → Int} {ps : List (Int × Int)} {k : Nat} {p : Int × Int} (hk : ps[k]? = some p) (h : homeB F p = false) : homeL F (ps.take (k + 1)) = homeL F (ps.take k) := by
  unfold homeL
  rw [List.take_add_one, hk]
  simp [h]
theorem home_le (F : Nat → Int) (ps : List (Int × Int)) : (homeL F ps).length ≤ ps.length := by unfold homeL; rw [List.length_map]; exact List.length_filter_le _ _
def homesL (l : List Wi) (ps : List (Int × Int)) : List Int := if rightW l = true then homeL (hereF l) ps else []

set_option maxRecDepth 100000 in
set_option maxHeartbeats 4000000 in
theorem home_any (A : Option Addr) (n c : Nat) (l : List Wi) (A' : Option Addr) (n' c' : Nat) (ps : List (Int × Int)) (w : World) (hR : Reads w w.heap.size 4 A n (wivs l)) (hU : ∀ (k : Nat) (x : Wi), l[k]? = some x → UW x) (hn : n ≤ 1000)
    (hP : Reads w w.heap.size 2 A' n' (svs ps)) (hn' : n' ≤ 1000) :
    Calls Tryd.prog 20 #[.slice A n c, .slice A' n' c'] w (NumsOf (homesL l ps) (standE l) w) := by
  have HS := Lib.hid (standing_any A n c l w hR hU hn)
  unfold homesL
  unfold standF standE at *
  by_cases hr : rightW l = true
  · rw [if_pos hr, if_pos hr]
    rw [if_pos hr, if_pos hr] at HS
    obtain ⟨i0, hi0, hz0, hz1, hz2⟩ := info_parts int_info
    have HL := Lib.hid (reads_len hP)
    have HR := Lib.hid hP
    have HO := Lib.hid (fun F v u => of_any F v u)
    generalize hereF l = F at *
    clear hR hU hn hP hr
    go_enter Tryd.func20, Tryd.ntmps20
    go_wp2_with fail
    refine HS.out.mono ?_
    rintro e X ⟨rfl, h2⟩
    unfold agH at HO
    have K6 := Blk.new X 71 (agH F)
    have GB := h2.alloc h2.size (.cells (agH F) 71)
    have hszX := h2.size
    have HX := Lib.hid h2
    clear h2
    unfold agH
    go_wp2_with fail
    go_loopw [8, 23] (fun v i wr => ∃ k m : Nat, k ≤ n' ∧ i = .int .i64 (k : Int) ∧ m = (homeL F (ps.take k)).length ∧ wr.ownsRow w.heap.size 3 1 v m (vs (homeL F (ps.take k))) ∧ Blk wr X.heap.size 71 (agH F) ∧ Below w.heap.size w wr) (fun _ i _ => n' - (intOf i).toNat)
    case atStart => exact ⟨0, 0, by omega, rfl, rfl, World.ownsRow_nil _ _ _ _, K6, GB⟩
    case round =>
      clear K6 GB
      obtain ⟨k, m, hk, rfl, hm, hO, hK, hB⟩ := hrel
      have hm8 : m ≤ 1000 := by have := home_le F (ps.take k); rw [List.length_take] at this; omega
      by_cases hlt : k < n'
      · obtain ⟨⟨x, y⟩, hx⟩ := elem_at (l := ps) (k := k) (by rw [HL.out]; exact hlt)
        obtain ⟨ad, rfl, hb, d0, d1⟩ := seat_at (HR.out.below hB) hx
        have HX' := Lib.hid hx
        have KN := Lib.hid (Blk.new wr 52 #[.int .i64 x, .int .i64 y])
        have B1 := Lib.hid (hB.alloc hB.size (.cells #[.int .i64 x, .int .i64 y] 52))
        have L6 := Lib.hid (hK.alloc (.cells #[.int .i64 x, .int .i64 y] 52))
        have O1 := Lib.hid (hO.alloc (.cells #[.int .i64 x, .int .i64 y] 52))
        have HLm := Lib.hid hm
        have HQ := Lib.hid (fun u => HO.out F x u)
        have z0 := KN.out.cell 0
        have z1 := KN.out.cell 1
        have L6' := L6.out
        unfold agH at L6'
        have c0 := L6'.cell 0
        have c1 := L6'.cell 1
        have c2 := L6'.cell 2
        have c3 := L6'.cell 3
        have c4 := L6'.cell 4
        have c5 := L6'.cell 5
        have c6 := L6'.cell 6
        have c7 := L6'.cell 7
        have HYES : homeB F (x, y) = true → Hid (homeL F (ps.take (k + 1)) = homeL F (ps.take k) ++ [x]) := fun h => Lib.hid (home_yes HX'.out h)
        have HNO : homeB F (x, y) = false → Hid (homeL F (ps.take (k + 1)) = homeL F (ps.take k)) := fun h => Lib.hid (home_no HX'.out h)
        have HHB := Lib.hid (show homeB F (x, y) = ((ofV F x).2 && (ofV F x).1 == y) from rfl)
        generalize ofV F x = R at *
        obtain ⟨R1, R2⟩ := R
        dsimp only at HQ HHB
        clear hx hb hK hO hm L6' hB
        cases R2 with
        | false =>
          have HN := HNO (by rw [HHB.out]; rfl)
          clear HYES HNO HHB
          go_wp2_with fail
          refine (HQ.out _).mono ?_
          rintro e w2 ⟨rfl, h2⟩
          have B2 := Lib.hid (B1.out.trans (h2.mono B1.out.size))
          have M6 := Lib.hid (L6.out.below h2 L6.out.lt)
          have O2 := Lib.hid (own_below O1.out h2)
          clear d0 d1 z0 z1 c0 c1 c2 c3 c4 c5 c6 c7 h2
          go_wp2_with fail
          go_roundw
          case rel => exact ⟨k + 1, m, by omega, by go_num, by rw [HN.out]; exact HLm.out, by rw [HN.out]; exact O2.out, M6.out, B2.out⟩
          case measure => simp [intOf] <;> omega
        | true =>
          by_cases he : R1 = y
          · have q : (R1 == y) = true := by simp [he]
            have HN := HYES (by rw [HHB.out]; simp [he])
            clear HYES HNO HHB he
            go_wp2_with fail
            refine (HQ.out _).mono ?_
            rintro e w2 ⟨rfl, h2⟩
            have B2 := Lib.hid (B1.out.trans (h2.mono B1.out.size))
            have M6 := Lib.hid (L6.out.below h2 L6.out.lt)
            have O2 := Lib.hid (own_below O1.out h2)
            have KN2 := Lib.hid (KN.out.below h2 KN.out.lt)
            clear d0 d1 z0 z1 c0 c1 c2 c3 c4 c5 c6 c7 h2
            have z0 := KN2.out.cell 0
            have z1 := KN2.out.cell 1
            go_wp2_with (
              at_builtin
              refine wpList_append_own _ rfl (.tmp 41) (.tmp 44) 30 rfl w.heap.size 3 i0 (.int .i64 0) 1 8 Tryd.underlying30 hi0 hz0 hz1 hz2 rfl (by decide) _ m _ rfl (O2.out.alloc _) ⟨_, 0, none⟩ 1 1 [.int .i64 x] rfl rfl (cell_one_new _ _ _) (by simp [Value.oneCell']) (by simp only [maxLen]; omega) (by omega) (by have := B2.out.size; simp; omega) ?_
              intro v2 w3 hown2 hg2 _)
            have hO2 : w3.ownsRow w.heap.size 3 1 v2 (m + 1) (vs (homeL F (ps.take (k + 1)))) := by
              rw [HN.out, vs_append, vs_one]
              exact hown2
            have hB2 : Below w.heap.size w w3 := (B2.out.alloc B2.out.size _).grown hg2 (by have := B2.out.size; simp; omega) (fun g hg => (O2.out.lt g hg).1)
            have hl2 : m + 1 = (homeL F (ps.take (k + 1))).length := by rw [HN.out, List.length_append, ← HLm.out]; rfl
            have hK2 : Blk w3 X.heap.size 71 (agH F) := (M6.out.alloc _).grown hg2 (M6.out.not_row (by decide) O2.out)
            go_roundw
            case rel => exact ⟨k + 1, m + 1, by omega, by go_num, hl2, hO2, hK2, hB2⟩
            case measure => simp [intOf] <;> omega
          · have q : (R1 == y) = false := by simpa using he
            have HN := HNO (by rw [HHB.out]; simp [he])
            clear HYES HNO HHB he
            go_wp2_with fail
            refine (HQ.out _).mono ?_
            rintro e w2 ⟨rfl, h2⟩
            have B2 := Lib.hid (B1.out.trans (h2.mono B1.out.size))
            have M6 := Lib.hid (L6.out.below h2 L6.out.lt)
            have O2 := Lib.hid (own_below O1.out h2)
            have KN2 := Lib.hid (KN.out.below h2 KN.out.lt)
            clear d0 d1 z0 z1 c0 c1 c2 c3 c4 c5 c6 c7 h2
            have z0 := KN2.out.cell 0
            have z1 := KN2.out.cell 1
            go_wp2_with fail
            go_roundw
            case rel => exact ⟨k + 1, m, by omega, by go_num, by rw [HN.out]; exact HLm.out, by rw [HN.out]; exact O2.out, M6.out, B2.out⟩
            case measure => simp [intOf] <;> omega
      · obtain rfl : k = n' := by omega
        have e1 : ps.take k = ps := by rw [← HL.out]; exact List.take_length
        rw [e1] at hm hO
        subst hm
        go_wp2
        go_ret2
        exact ⟨_, rfl, hO, hB⟩
  · rw [if_neg hr, if_neg hr]
    rw [if_neg hr, if_neg hr] at HS
    clear hr hR hU hn hP hn'
    go_enter Tryd.func20, Tryd.ntmps20
    go_wp2_with fail
    refine HS.out.mono ?_
    rintro e X ⟨rfl, h2⟩
    have GB := h2.alloc h2.size (.cells (agH fun _ => 0) 71)
    have HB := Lib.hid GB
    unfold agH
    clear h2 GB
    go_wp2
    go_ret2
    exact ⟨_, rfl, World.ownsRow_nil _ _ _ _, HB.out⟩

end Go.Proofs.YtldleijocjohgaaDoor
