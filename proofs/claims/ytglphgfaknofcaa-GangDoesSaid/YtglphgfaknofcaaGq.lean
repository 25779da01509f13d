/-
  The statements' few. No statement is proved here.
-/
import Derived.Test.YtglphgfaknofcaaGp
namespace Go.Proofs.Ytglphgfaknofcaa
open Go.RowKit Go.Maps

theorem reads_new (w : World) (t : TypeId) (cs : Array Value) {k : Nat} (hk : cs.size = k) {g : Nat} (hg : g = w.heap.size) : Reads (w.alloc (.cells cs t)) (w.alloc (.cells cs t)).heap.size k (some ⟨g, 0, none⟩) 1 cs.toList := by
  subst hg
  refine reads_blk (Blk.new _ _ _) rfl ?_
  rw [Array.length_toList, hk, Nat.one_mul]
theorem gv_ones (gs : List Gg) : ∀ u ∈ flat gv gs, u.oneCell' = true := flat_all gv (fun a u hu => by simp [gv] at hu; rw [hu]; rfl) gs
def fewL (gs : List Gg) : List (List Int) := (gs.map fun g => g.2.2.2.take 9).take 9
/-- no two rows share memory -/
def Apart (G : List Gg) : Prop := G.Pairwise fun x y => ∀ p q, (slG x).ownBlock = some p → (slG y).ownBlock = some q → p ≠ q
def FewSaid (gs : List Gg) (w : World) (e : Ending) (w' : World) : Prop := ∃ A n c G, e = .returned (.slice A n c) ∧ GO w' w.heap.size A n c G ∧ gsI G = fewL gs ∧ (∀ g ∈ G, g.2.1 ≤ 9) ∧ n ≤ 9 ∧ Below w.heap.size w w' ∧ Apart G

set_option maxRecDepth 100000 in
set_option maxHeartbeats 8000000 in
theorem few_any (A : Option Addr) (n c : Nat) (gs : List Gg) (w : World) (hG : GA w A n gs) : Calls Try.prog 25 #[.slice A n c] w (FewSaid gs w) := by
  obtain ⟨i0, hi0, hz0, hz1, hz2⟩ := info_parts9 int_info
  obtain ⟨ji, hi1, hy0, hy1, hy2⟩ := info_parts9 slice_info
  have HGA := Lib.hid hG
  have HL := Lib.hid hG.len
  have hn2 : n ≤ 9223372036854775807 := by have := hG.big; unfold maxLen at this; omega
  clear hG
  go_enter Try.func25, Try.ntmps25
  go_wp2_with fail
  go_loopw [3, 8] (fun s i wr => ∃ (k : Nat) (A5 : Option Addr) (n5 c5 : Nat) (G : List Gg), k ≤ n ∧ i = .int .i64 (k : Int) ∧ s = .slice A5 n5 c5 ∧ n5 ≤ 9 ∧ Hid (GO wr w.heap.size A5 n5 c5 G ∧ gsI G = ((gs.take k).map fun g => g.2.2.2.take 9).take 9 ∧ (∀ g ∈ G, g.2.1 ≤ 9) ∧ Below w.heap.size w wr ∧ (k ≤ 9 → n5 = k) ∧ Apart G)) (fun _ i _ => n - (intOf i).toNat)
  case atStart => exact ⟨0, none, 0, 0, [], Nat.zero_le _, rfl, rfl, by omega, Lib.hid ⟨⟨World.ownsRow_nil _ _ _ _, (fun e he => by cases he), (fun e he => by cases he)⟩, rfl, (fun e he => by cases he), Below.refl _ _, (fun _ => rfl), List.Pairwise.nil⟩⟩
  case round =>
    obtain ⟨k, A5, n5, c5, G, hk, rfl, rfl, hn5, HJ⟩ := hrel
    by_cases hlt : k < n
    · obtain ⟨⟨A3, n3, c3, is⟩, hx⟩ := elem_at (l := gs) (k := k) (by rw [HL.out]; exact hlt)
      have hB : Below w.heap.size w wr := HJ.out.2.2.2.1
      obtain ⟨ad, rfl, hb1, d0⟩ := (HGA.out.below hB).at_ hx
      have hM := (HGA.out.below hB).mem _ (List.mem_of_getElem? hx)
      have hcut := cut_vs hM.1 9
      have h33 : n3 ≤ c3 := hM.2
      obtain ⟨q, hq⟩ : ∃ q, min n3 9 = q := ⟨_, rfl⟩
      have HQ7 : Hid (q ≤ 9) := Lib.hid (by omega)
      rw [show min (A3, n3, c3, is).2.1 9 = q from hq] at hcut
      have hmi : min (n3 : Int) 9 = (q : Int) := by omega
      have m0 : (0 : Int) ≤ (q : Int) := by omega
      have m1 : (q : Int) ≤ (c3 : Int) := by omega
      have HC := Lib.hid (hcut.alloc (Nat.le_refl _) (.cells #[] 3))
      have HBA := Lib.hid ((Below.refl wr.heap.size wr).alloc (Nat.le_refl _) (.cells #[] 3))
      have HX2 := Lib.hid hx
      have i1 : (0 : Int) ≤ (k : Int) := by omega
      have i2 : (k : Int) < (n : Int) := by omega
      clear hx hb1 hM hB hcut hq
      by_cases h17 : k ≤ 8
      · have c1 : decide ((k : Int) ≤ 8) = true := decide_eq_true (by omega)
        have hnk := HJ.out.2.2.2.2.1 (by omega)
        subst hnk
        have HT : Hid (((gs.take (n5 + 1)).map fun g => g.2.2.2.take 9).take 9 = ((gs.take n5).map fun g => g.2.2.2.take 9).take 9 ++ [is.take 9]) := Lib.hid (by
          have e9 : gs.take (n5 + 1) = gs.take n5 ++ [(A3, n3, c3, is)] := by rw [List.take_add_one (l := gs), HX2.out]; rfl
          rw [e9, List.map_append, List.take_of_length_le (i := 9) (by simp; omega), List.take_of_length_le (i := 9) (by simp; omega)]
          rfl)
        go_wp2_with (first
          | (at_builtin
             refine wpList_append_any _ rfl (.tmp 16) (.tmp 21) 28 rfl wr.heap.size 3 i0 (.int .i64 0) 1 8 Try.underlying28 hi0 hz0 hz1 hz2 rfl (by decide) (.slice (some ⟨wr.heap.size, 0, none⟩) 0 0) 0 [] rfl (by simpa using World.ownsRow_made wr #[] 0 (Nat.le_refl _) (by simp [maxLen]) (by simp)) _ A3 q c3 (vs (is.take 9)) rfl HC.out (vs_ones _) (by simp only [maxLen]; omega) (by omega) (by simp) ?_
             intro v4 w4 own4 grow4 _
             rw [List.nil_append, Nat.zero_add] at own4
             obtain ⟨A4, c4, rfl, _, _⟩ := own_reads own4
             have h9 := HBA.out.grown grow4 HBA.out.size (fun k hk => by simp [Value.ownBlock] at hk; omega)
             obtain ⟨SG, eG, h7, BX, _, hap⟩ := HJ.out
             have hne : ∀ j j', (Value.slice A4 q c4).ownBlock = some j → (Value.slice A5 n5 c5).ownBlock = some j' → j ≠ j' := fun j j' hj hj' => by
               have := (own4.lt j hj).1
               have := (SG.row.lt j' hj').2
               omega
             have hBX : w.heap.size ≤ wr.heap.size := BX.size
             have HAP : Hid (Apart (G ++ [(A4, q, c4, is.take 9)])) := Lib.hid (by
               unfold Apart at *
               rw [List.pairwise_append]
               refine ⟨hap, List.pairwise_singleton _ _, fun y hy z hz p r hp hr => ?_⟩
               rw [List.mem_singleton] at hz
               subst hz
               have h1 := ((SG.mem y hy).lt p hp).2
               have h2 := (own4.lt r hr).1
               omega)
             replace SG := SG.below h9
             replace BX := BX.trans (h9.mono BX.size)
             have HS := Lib.hid (And.intro SG (And.intro (own_down own4 hBX) (And.intro BX hne)))
             clear SG BX own4 grow4 h9 hne hBX eG h7 hap)
          | (at_builtin
             refine wpList_append_any _ rfl (.tmp 15) (.tmp 23) 41 rfl w.heap.size 28 ji (.slice none 0 0) 1 24 Try.underlying41 hi1 hy0 hy1 hy2 rfl (by decide) (.slice A5 n5 c5) n5 (flat gv G) rfl (HS.out.1.row.alloc _) _ (some ⟨w4.heap.size, 0, none⟩) 1 1 (flat gv [(A4, q, c4, is.take 9)]) rfl (reads_new _ _ _ rfl (by simp)) (gv_ones _) (by simp only [maxLen]; omega) (by omega) (by have := HS.out.2.2.1.size; simp; omega) ?_
             intro v9 w9 own9 grow9 ne9
             rw [← flat_append] at own9
             obtain ⟨A9, c9, rfl, _, _⟩ := own_reads own9
             have HF : Hid (GO w9 w.heap.size A9 (n5 + 1) c9 (G ++ [(A4, q, c4, is.take 9)])) := Lib.hid (HS.out.1.more HS.out.2.1 HS.out.2.2.2 grow9 own9 ne9)
             have HB9 : Hid (Below w.heap.size w w9) := Lib.hid ((HS.out.2.2.1.alloc HS.out.2.2.1.size _).grown grow9 (HS.out.2.2.1.alloc HS.out.2.2.1.size _).size (fun j hj => (HS.out.1.row.lt j hj).1))
             clear own9 grow9 ne9))
        clear d0
        go_wp2
        go_roundw
        case rel => exact ⟨n5 + 1, A9, n5 + 1, c9, _, by omega, by go_num, rfl, by omega, Lib.hid ⟨HF.out, by rw [HT.out]; unfold gsI; rw [List.map_append]; have := HJ.out.2.1; unfold gsI at this; rw [this]; rfl, fun g hg => by
          rw [List.mem_append, List.mem_singleton] at hg
          rcases hg with hg | rfl
          · exact HJ.out.2.2.1 g hg
          · exact HQ7.out, HB9.out, (fun _ => rfl), HAP.out⟩⟩
        case measure => simp [intOf] <;> omega
      · have c1 : decide ((k : Int) ≤ 8) = false := decide_eq_false (by omega)
        have HT : Hid (((gs.take (k + 1)).map fun g => g.2.2.2.take 9).take 9 = ((gs.take k).map fun g => g.2.2.2.take 9).take 9) := Lib.hid (by
          rw [← List.map_take, ← List.map_take, List.take_take, List.take_take, Nat.min_eq_left (by omega), Nat.min_eq_left (by omega)])
        go_wp2_with fail
        go_roundw
        case rel => exact ⟨k + 1, A5, n5, c5, G, by omega, by go_num, rfl, hn5, Lib.hid ⟨HJ.out.1, by rw [HT.out]; exact HJ.out.2.1, HJ.out.2.2.1, HJ.out.2.2.2.1, (fun h => by omega), HJ.out.2.2.2.2.2⟩⟩
        case measure => simp [intOf] <;> omega
    · obtain rfl : k = n := by omega
      have HT : Hid (((gs.take k).map fun g => g.2.2.2.take 9).take 9 = fewL gs) := Lib.hid (by unfold fewL; rw [List.take_of_length_le (l := gs) (by rw [HL.out]; exact Nat.le_refl _)])
      go_wp2
      go_ret
      exact ⟨A5, n5, c5, G, rfl, HJ.out.1, by rw [HJ.out.2.1, HT.out], HJ.out.2.2.1, hn5, HJ.out.2.2.2.1, HJ.out.2.2.2.2.2⟩

end Go.Proofs.Ytglphgfaknofcaa
