/-
  The contract of the landed Text. No statement is proved here.
-/
import Derived.Test.YtbmlhodglemplaaDoorCg
import Derived.Test.YtbmlhodglemplaaDoorShelf
namespace Go.Proofs.YtbmlhodglemplaaDoor
open Go.RowKit

theorem bytes_back (s : ByteArray) : (⟨s.data.toList.toArray⟩ : ByteArray) = s := by
  obtain ⟨⟨l⟩⟩ := s
  rfl
theorem str_of {l : List UInt8} {s : ByteArray} (h : s.data.toList = l) : (⟨l.toArray⟩ : ByteArray) = s := by
  subst h
  exact bytes_back s

def strs (l : List ByteArray) : List Value := l.map .string
theorem strs_append (a b : List ByteArray) : strs (a ++ b) = strs a ++ strs b := by simp [strs]
theorem str_info : (Tryd.prog.info? 9).map (fun i => (i.zero, i.size, i.bytes)) = some (some (.string ⟨#[]⟩), 1, 16) := by kernel_rfl

def textE (s : Int) : ByteArray × Int := if s < 256 then (textB s, 0) else (⟨#[]⟩, 140)
theorem size_rowT (i j : Nat) : (rowT i j).size ≤ 3 := by
  unfold rowT
  split
  · rw [size_dgB]; omega
  · rw [ByteArray.size_append, ByteArray.size_append, size_dgB, size_dgB]
    have : (⟨#[45]⟩ : ByteArray).size = 1 := rfl
    omega

/-- one row of the text, as its first one and its last one say -/
theorem rows_at {s k : Nat} {x y : Int} (hx : (mem (begB s : Int))[k]? = some x) (hy : (mem (endB s : Int))[k]? = some y) :
    ∃ i j : Nat, x = (i : Int) ∧ y = (j : Int) ∧ i < 10 ∧ j < 10 ∧ (rowsT s)[k]? = some (rowT i j) := by
  obtain ⟨i, rfl, hi⟩ := mem_cpu (List.mem_of_getElem? hx)
  obtain ⟨j, rfl, hj⟩ := mem_cpu (List.mem_of_getElem? hy)
  refine ⟨i, j, rfl, rfl, by omega, by omega, ?_⟩
  unfold rowsT
  rw [List.getElem?_zipWith, hx, hy]
  simp

theorem take_more {α : Type} {l : List α} {k : Nat} {x : α} (h : l[k]? = some x) : l.take (k + 1) = l.take k ++ [x] := by
  rw [List.take_add_one, h]; rfl

set_option maxRecDepth 100000 in
set_option maxHeartbeats 2000000 in
theorem text_big (s : Int) (w : World) (h0 : 0 ≤ s) (h1 : s < 4294967296) (hs : ¬ s < 256) : Calls Tryd.prog 30 #[.int .u32 s] w (Ans (.tuple #[.string ⟨#[]⟩, .int .i64 140]) w) := by
  have HK := Lib.hid (fun u => check_any s u h0 h1)
  rw [show chkV s = 140 from if_neg hs] at HK
  clear h0 h1 hs
  go_enter Tryd.func30, Tryd.ntmps30
  go_wp2_with fail
  refine (HK.out _).mono ?_
  rintro e w' ⟨rfl, rfl⟩
  go_wp2
  go_ret2
  exact ⟨rfl, Below.refl _ _⟩

set_option maxRecDepth 100000 in
set_option maxHeartbeats 2000000 in
theorem text_zero (w : World) : Calls Tryd.prog 30 #[.int .u32 0] w (Ans (.tuple #[.string ⟨#[110, 111, 110, 101]⟩, .int .i64 0]) w) := by
  have HK := Lib.hid (fun u => check_any 0 u (by omega) (by omega))
  rw [show chkV 0 = 0 from rfl] at HK
  go_enter Tryd.func30, Tryd.ntmps30
  go_wp2_with fail
  refine (HK.out _).mono ?_
  rintro e w' ⟨rfl, rfl⟩
  go_wp2
  go_ret2
  exact ⟨rfl, Below.refl _ _⟩

set_option maxRecDepth 100000 in
set_option maxHeartbeats 4000000 in
theorem text_mid (s : Nat) (w : World) (hT : Db w) (h0 : 0 < s) (h1 : s < 256) : Calls Tryd.prog 30 #[.int .u32 (s : Int)] w (Ans (.tuple #[.string (textB (s : Int)), .int .i64 0]) w) := by
  obtain ⟨i0, hi0, hz0, hz1, hz2⟩ := info_parts str_info
  obtain ⟨hb, he, b8, e8, hlen, hpos, htext⟩ := rows_facts h0 h1
  have hg := hT.lt
  have HK := Lib.hid (fun u => check_any (s : Int) u (by omega) (by omega))
  rw [show chkV (s : Int) = 0 from if_pos (by omega)] at HK
  have HF := Lib.hid (fun u hu => list_any (begB s : Int) u (by omega) (by omega) hu)
  have HL := Lib.hid (fun u hu => list_any (endB s : Int) u (by omega) (by omega) hu)
  have HD := Lib.hid hT
  have HX := Lib.hid (fun k x y hx hy => rows_at (s := s) (k := k) (x := x) (y := y) hx hy)
  have hrl : (rowsT s).length = (mem (begB s : Int)).length := by unfold rowsT; rw [List.length_zipWith, ← hlen, Nat.min_self]
  have HE : Hid (textB (s : Int) = ⟨(joinT s).toArray⟩) := Lib.hid (str_of htext).symm
  have hj : (joinT s).length ≤ 1000 := by
    have h5 : ∀ s, s < 256 → (textB ((s : Nat) : Int)).data.toList.length ≤ 1000 := by
      intro s hs
      have := of_all (f := fun s => decide ((textB ((s : Nat) : Int)).data.toList.length ≤ 1000)) 256 (by kernel_rfl) hs
      simpa using this
    rw [← htext]
    exact h5 s h1
  have HJ := Lib.hid hj
  have hl8 : (mem (begB s : Int)).length ≤ 8 := length_memb _ 8
  have hl9 : (mem (endB s : Int)).length = (mem (begB s : Int)).length := hlen.symm
  have HR := Lib.hid hrl
  have hs1 : ((s : Int) == 0) = false := by simp; omega
  unfold joinT at HE HJ
  have hsx : (s : Int) < 256 := by omega
  clear hT hlen htext hj hrl h0 h1
  generalize mem (begB s : Int) = F at *
  generalize mem (endB s : Int) = L at *
  generalize rowsT s = R at *
  obtain ⟨N, hN⟩ : ∃ N, N = F.length := ⟨_, rfl⟩
  generalize hbs : begB s = bs at *
  generalize hes : endB s = es at *
  clear hbs hes
  go_enter Tryd.func30, Tryd.ntmps30
  go_wp2_with fail
  refine (HK.out _).mono ?_
  rintro e w' ⟨rfl, rfl⟩
  go_wp2_with fail
  refine (HF.out _ HD.out).mono ?_
  rintro e w1 ⟨A1, c1, rfl, hO1, hB1⟩
  have hD1 := HD.out.below hB1 hg
  go_wp2_with fail
  refine (HL.out _ hD1).mono ?_
  rintro e w2 ⟨A2, c2, rfl, hO2, hB2⟩
  have b2 := hB1.trans (hB2.mono hB1.size)
  have r1 := ((Reads.of_own hO1).below hB2).more hB2.size
  have r2 := Reads.of_own hO2
  clear hO1 hO2 hB1 hB2 hD1
  have hg2 : 0 < w2.heap.size := by have := b2.size; omega
  generalize hB : w2.heap.size = B at *
  go_wp2_with fail
  go_loopw [7, 29] (fun v i wr => ∃ k : Nat, k ≤ F.length ∧ i = .int .i64 k ∧ wr.ownsRow B 9 1 v k (strs (R.take k)) ∧ Below B w2 wr) (fun _ i _ => F.length - (intOf i).toNat)
  case atStart => exact ⟨0, by omega, rfl, World.ownsRow_nil _ _ _ _, Below.refl _ _⟩
  case round =>
    obtain ⟨k, hk, rfl, hO, hBB⟩ := hrel
    by_cases hlt : k < F.length
    · have q1 := r1.below hBB
      have q2 := r2.below hBB
      obtain ⟨a1, u1, rfl, _, hx1, hc1⟩ := q1.at_ (k := k) hlt
      obtain ⟨a2, u2, rfl, _, hx2, hc2⟩ := q2.at_ (k := k) (by omega)
      obtain ⟨x, hx3, rfl⟩ := vs_at hx1
      obtain ⟨y, hy3, rfl⟩ := vs_at hx2
      obtain ⟨i, j, rfl, rfl, hi, hj, hR⟩ := HX.out k x y hx3 hy3
      have HW := Lib.hid (fun u => row_any i j u hi hj)
      have HT := Lib.hid (take_more hR)
      have HK := Lib.hid hlt
      have HO := Lib.hid hO
      have hzw := hBB.size
      have j0 : (0 : Int) ≤ (k : Int) := by omega
      have j1 : (k : Int) < (F.length : Int) := by omega
      have j2 : (k : Int) < (L.length : Int) := by omega
      have k8 : k < 8 := by omega
      clear hx1 hx2 hx3 hy3 hi hj hR hlt hO
      generalize rowT i j = X at *
      go_wp2_with fail
      refine (HW.out _).mono ?_
      rintro e w' ⟨rfl, rfl⟩
      go_wp2_with (
        at_builtin
        refine wpList_append_own _ rfl (.tmp 34) (.tmp 41) 48 rfl B 9 i0 (.string ⟨#[]⟩) 1 16 Tryd.underlying48 hi0 hz0 hz1 hz2 rfl (by decide) _ k _ rfl (HO.out.alloc _) ⟨_, 0, none⟩ 1 1 [.string X] rfl rfl (cell_one_new _ _ _) (by simp [Value.oneCell']) (by simp only [maxLen]; omega) (by omega) (by simp; omega) ?_
        intro v2 w3 hown2 hg2 _)
      have hO2 : w3.ownsRow B 9 1 v2 (k + 1) (strs (R.take (k + 1))) := by
        rw [HT.out, strs_append]
        exact hown2
      have hB3 : Below B w2 w3 := (hBB.alloc (by omega) _).grown hg2 (by simp; omega) (fun g hg => (HO.out.lt g hg).1)
      go_roundw
      case rel => exact ⟨k + 1, by have := HK.out; omega, by go_num, hO2, hB3⟩
      case measure => have := HK.out; simp [intOf]; omega
    · obtain rfl : k = F.length := by omega
      obtain ⟨g, cap, rfl, hgB, hgl⟩ := hO.form hpos
      have hcap : F.length ≤ cap := by
        rcases hO.2 with ⟨h, _⟩ | ⟨g', cap', cur, h, _, _, hle, _⟩
        · cases h
        · injection h with _ _ h3
          omega
      have hcells := hO.cells (g := g) rfl
      have hRl := HR.out
      have hRt : R.take F.length = R := by rw [← hRl, List.take_length]
      rw [hRt] at hcells
      have HJJ : Hid (∀ u : World, (∀ p : Addr, p.block = g → u.cell? p = wr.cell? p) → g < u.heap.size → Calls Tryd.prog 42 #[.slice (some ⟨g, 0, none⟩) F.length cap, .string ⟨#[44]⟩] u (fun e w' => e = .returned (.string (textB (s : Int))) ∧ Below u.heap.size u w')) := Lib.hid (by
        intro u hu hgu
        have := Tryd.strings_Join g 0 cap R ⟨#[44]⟩ u (fun j x hx => by
          rw [hu _ rfl]
          have := hcells j (.string x) (by unfold strs; rw [List.getElem?_map, hx]; rfl)
          rw [Nat.zero_add]
          rcases Nat.eq_zero_or_pos j with h | h
          · subst h; exact this
          · rw [Addr.add] at this
            simpa [Nat.pos_iff_ne_zero.1 h] using this) hgu (by omega) (by omega) (by have := HJ.out; exact Nat.le_trans this (by omega))
        rw [hRl] at this
        refine this.mono ?_
        rintro e w' ⟨rfl, hb⟩
        exact ⟨by rw [HE.out], hb⟩)
      have hBw : Below w.heap.size w wr := b2.trans (hBB.mono (by have := b2.size; omega))
      generalize textB (s : Int) = T at *
      clear hO hcells hRt hRl hBB
      go_wp2_with fail
      refine (HJJ.out _ (fun _ _ => rfl) hgl).mono ?_
      rintro e w4 ⟨rfl, hb4⟩
      go_wp2
      go_ret2
      exact ⟨rfl, hBw.trans (hb4.mono hBw.size)⟩

theorem text_any (s : Int) (w : World) (hT : Db w) (h0 : 0 ≤ s) (h1 : s < 4294967296) : Calls Tryd.prog 30 #[.int .u32 s] w (Ans (.tuple #[.string (textE s).1, .int .i64 (textE s).2]) w) := by
  by_cases hs : s < 256
  · rw [show textE s = (textB s, 0) from if_pos hs]
    obtain ⟨n, rfl⟩ := Int.eq_ofNat_of_zero_le h0
    rcases Nat.eq_zero_or_pos n with h | h
    · subst h
      rw [show textB ((0 : Nat) : Int) = ⟨#[110, 111, 110, 101]⟩ by decide +kernel]
      exact text_zero w
    · exact text_mid n w hT h (by omega)
  · rw [show textE s = (⟨#[]⟩, 140) from if_neg hs]
    exact text_big s w h0 h1 hs

end Go.Proofs.YtbmlhodglemplaaDoor
