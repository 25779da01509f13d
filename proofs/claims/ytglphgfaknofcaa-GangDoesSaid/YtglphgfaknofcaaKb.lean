/-
  The landed gang: Rows. No statement is proved here.
-/
import Derived.Test.YtglphgfaknofcaaKa
import Derived.Test.YtglphgfaknofcaaGt
namespace Go.Proofs.Ytglphgfaknofcaa
open Go.RowKit Go.Maps

/-- the members of all gangs -/
def rowsL (l : List Gm) : List (List Int) := if rightG l = true then l.map (·.2) else []
def RowsSaid (l : List Gm) (w : World) (e : Ending) (w' : World) : Prop := ∃ A n c G, e = .returned (.slice A n c) ∧ n ≤ 100 ∧ GO w' w.heap.size A n c G ∧ gsI G = rowsL l ∧ (∀ g ∈ G, g.2.1 ≤ 100) ∧ Below w.heap.size w w'

set_option maxRecDepth 100000 in
set_option maxHeartbeats 8000000 in
theorem rows_any (A : Option Addr) (n c : Nat) (gs : List Gn) (w : World) (hG : NW w A n gs) (hc : n ≤ c) : Calls Try.prog 18 #[.agg #[.slice A n c]] w (RowsSaid (gsM gs) w) := by
  obtain ⟨ji, hi1, hy0, hy1, hy2⟩ := info_parts9 slice_info
  obtain ⟨K0, GB⟩ := box1 w 24 #[.slice A n c]
  have HCh := Lib.hid (fun (u : World) (h : Below w.heap.size w u) => gcheck_any A n c gs u (hG.below h) hc)
  have HGA := Lib.hid hG
  have n9 : n ≤ 100 := hG.small
  have HL := Lib.hid hG.len
  have hgs : w.heap.size < (w.alloc (.cells #[.slice A n c] 24)).heap.size := by simp
  have HK := Lib.hid K0
  have c0 := K0.cell 0
  clear hG K0
  by_cases hr : rightG (gsM gs) = true
  · have hv : chkG (gsM gs) = 0 := if_pos hr
    have HR : Hid (rowsL (gsM gs) = (gsM gs).map (·.2)) := Lib.hid (if_pos hr)
    rw [hv] at HCh
    clear hv hr
    go_enter Try.func18, Try.ntmps18
    go_wp2_with fail
    refine (HCh.out _ GB).mono ?_
    rintro e w1 ⟨rfl, h1⟩
    have HB1 := Lib.hid (GB.trans (h1.mono GB.size))
    have c1 := (HK.out.below h1 hgs).cell 0
    clear h1 c0 GB
    go_wp2_with fail
    go_loopw [3, 5, 12] (fun s _ i wr => ∃ (k : Nat) (A5 : Option Addr) (c5 : Nat) (G : List Gg), k ≤ n ∧ i = .int .i64 (k : Int) ∧ s = .slice A5 k c5 ∧ Hid (GO wr w.heap.size A5 k c5 G ∧ gsI G = ((gsM gs).take k).map (·.2) ∧ (∀ g ∈ G, g.2.1 ≤ 100) ∧ Below w.heap.size w wr)) (fun _ _ i _ => n - (intOf i).toNat)
    case atStart => exact ⟨0, none, 0, [], Nat.zero_le _, rfl, rfl, Lib.hid ⟨⟨World.ownsRow_nil _ _ _ _, (fun e he => by cases he), (fun e he => by cases he)⟩, rfl, (fun e he => by cases he), HB1.out⟩⟩
    case round =>
      obtain ⟨k, A5, c5, G, hk, rfl, rfl, HJ⟩ := hrel
      by_cases hlt : k < n
      · obtain ⟨⟨id, A3, n3, c3, is⟩, hx⟩ := elem_at (l := gs) (k := k) (by rw [HL.out]; exact hlt)
        have hB : Below w.heap.size w wr := HJ.out.2.2.2
        obtain ⟨ad, rfl, hb1, d0, d1⟩ := (HGA.out.below hB).at_ hx
        have hM := (HGA.out.below hB).each _ (List.mem_of_getElem? hx)
        have HM1 := Lib.hid hM.2
        have HCl := Lib.hid (clone_any A3 n3 c3 is (wr.alloc (.cells #[.int .i64 id, .slice A3 n3 c3] 36)) (hM.1.below ((Below.refl _ _).alloc (Nat.le_refl _) _)))
        have HBA := Lib.hid ((Below.refl wr.heap.size wr).alloc (Nat.le_refl _) (.cells #[.int .i64 id, .slice A3 n3 c3] 36))
        have x1 := (Blk.new wr 36 #[.int .i64 id, .slice A3 n3 c3]).cell 1
        have HX2 := Lib.hid hx
        have i1 : (0 : Int) ≤ (k : Int) := by omega
        have i2 : (k : Int) < (n : Int) := by omega
        have HT : Hid (((gsM gs).take (k + 1)).map (·.2) = ((gsM gs).take k).map (·.2) ++ [is]) := Lib.hid (by
          rw [List.take_add_one, gsM_at HX2.out, List.map_append]
          rfl)
        clear hx hb1 hM hB
        go_wp2_with fail
        refine HCl.out.mono ?_
        rintro e w4 ⟨A4, c4, rfl, own4, h4⟩
        have HS : Hid (GO w4 w.heap.size A5 k c5 G ∧ w4.ownsRow w.heap.size 3 1 (.slice A4 n3 c4) n3 (vs is) ∧ Below w.heap.size w w4 ∧ ∀ j j', (Value.slice A4 n3 c4).ownBlock = some j → (Value.slice A5 k c5).ownBlock = some j' → j ≠ j') := Lib.hid (by
          obtain ⟨SG, eG, h7, BX⟩ := HJ.out
          have h9 := HBA.out.trans (h4.mono HBA.out.size)
          have hsz : wr.heap.size ≤ (wr.alloc (.cells #[.int .i64 id, .slice A3 n3 c3] 36)).heap.size := HBA.out.size
          refine ⟨SG.below h9, own_down own4 (Nat.le_trans BX.size hsz), BX.trans (h9.mono BX.size), fun j j' hj hj' => ?_⟩
          have := (own4.lt j hj).1
          have := (SG.row.lt j' hj').2
          omega)
        clear own4 h4 x1 d0 d1
        go_wp2_with (first
          | (at_builtin
             refine wpList_append_any _ rfl (.tmp 16) (.tmp 20) 41 rfl w.heap.size 28 ji (.slice none 0 0) 1 24 Try.underlying41 hi1 hy0 hy1 hy2 rfl (by decide) (.slice A5 k c5) k (flat gv G) rfl (HS.out.1.row.alloc _) _ (some ⟨w4.heap.size, 0, none⟩) 1 1 (flat gv [(A4, n3, c4, is)]) rfl (reads_new _ _ _ rfl (by simp)) (gv_ones _) (by simp only [maxLen]; omega) (by omega) (by have := HS.out.2.2.1.size; simp; omega) ?_
             intro v9 w9 own9 grow9 ne9
             rw [← flat_append] at own9
             obtain ⟨A9, c9, rfl, _, _⟩ := own_reads own9
             have HF : Hid (GO w9 w.heap.size A9 (k + 1) c9 (G ++ [(A4, n3, c4, is)])) := Lib.hid (HS.out.1.more HS.out.2.1 HS.out.2.2.2 grow9 own9 ne9)
             have HB9 : Hid (Below w.heap.size w w9) := Lib.hid ((HS.out.2.2.1.alloc HS.out.2.2.1.size _).grown grow9 (HS.out.2.2.1.alloc HS.out.2.2.1.size _).size (fun j hj => (HS.out.1.row.lt j hj).1))
             clear own9 grow9 ne9))
        go_roundw
        case rel => exact ⟨k + 1, A9, c9, _, by omega, by go_num, rfl, Lib.hid ⟨HF.out, by rw [HT.out]; unfold gsI; rw [List.map_append]; have := HJ.out.2.1; unfold gsI at this; rw [this]; rfl, fun g hg => by
          rw [List.mem_append, List.mem_singleton] at hg
          rcases hg with hg | rfl
          · exact HJ.out.2.2.1 g hg
          · exact HM1.out, HB9.out⟩⟩
        case measure => simp [intOf] <;> omega
      · obtain rfl : k = n := by omega
        have HT : Hid ((gsM gs).take k = gsM gs) := Lib.hid (List.take_of_length_le (by rw [gsM_len, HL.out]; exact Nat.le_refl _))
        go_wp2
        go_ret
        exact ⟨A5, _, c5, G, rfl, n9, HJ.out.1, by rw [HJ.out.2.1, HT.out, HR.out], HJ.out.2.2.1, HJ.out.2.2.2⟩
  · have hv : chkG (gsM gs) = 240 := if_neg hr
    have HR : Hid (rowsL (gsM gs) = []) := Lib.hid (if_neg hr)
    rw [hv] at HCh
    clear hv hr
    go_enter Try.func18, Try.ntmps18
    go_wp2_with fail
    refine (HCh.out _ GB).mono ?_
    rintro e w1 ⟨rfl, h1⟩
    have HB1 := Lib.hid (GB.trans (h1.mono GB.size))
    clear h1 c0 GB
    go_wp2_with fail
    go_ret
    exact ⟨none, 0, 0, [], rfl, by omega, ⟨World.ownsRow_nil _ _ _ _, (fun e he => by cases he), (fun e he => by cases he)⟩, by rw [HR.out]; rfl, (fun e he => by cases he), HB1.out⟩

end Go.Proofs.Ytglphgfaknofcaa
