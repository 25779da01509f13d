/-
  The landed mask: Most. No statement is proved here.
-/
import Derived.Test.YtcdlhfhachpcdaaDoorMw
namespace Go.Proofs.YtcdlhfhachpcdaaDoor
open Go.RowKit

theorem cells_new (w : World) (g : Nat) (hg : g = w.heap.size) (x y : Value) (t : TypeId) : ∀ j u, [x, y][j]? = some u → (w.alloc (.cells #[x, y] t)).cell? ((⟨g, 0, none⟩ : Addr).add j) = some u := by
  subst hg
  intro j u hj
  obtain ⟨ad, e, _, h⟩ := (reads_new w t 2 1 [x, y] rfl).2 (by omega)
  obtain rfl := Option.some.inj e
  exact h j u hj
theorem hards_take {l : List (Int × Int)} {k : Nat} {m : Int × Int} (h : l[k]? = some m) : hards (l.take (k + 1)) = hards (l.take k) ++ [m.1.toNat] := by
  unfold hards
  rw [List.take_add_one, h, List.map_append]
  rfl

/-- a round's state -/
structure Kept (l : List (Int × Int)) (S : Nat) (w : World) (k : Nat) (v : Value) (K : List (Int × Int)) (wr : World) : Prop where
  row : wr.ownsRow w.heap.size 25 2 v K.length (mvs K)
  all : K.all rightM = true
  um : ∀ (i : Nat) (m : Int × Int), K[i]? = some m → UM m
  greedy : hards K = greedy S (hards (l.take k))
  le : K.length ≤ k
  below : Below w.heap.size w wr
theorem mvs_snoc (K : List (Int × Int)) (x y : Int) : mvs (K ++ [(x, y)]) = mvs K ++ [.int .u32 x, .int .u32 y] := by
  unfold mvs
  rw [flat_append, flat_one]
  rfl
theorem um_snoc {K : List (Int × Int)} {m : Int × Int} (h : ∀ (i : Nat) (m : Int × Int), K[i]? = some m → UM m) (hm : UM m) : ∀ (i : Nat) (m' : Int × Int), (K ++ [m])[i]? = some m' → UM m' := fun i m' hi => by
  rcases List.mem_append.1 (List.mem_of_getElem? hi) with h1 | h1
  · obtain ⟨j, hj, e⟩ := List.getElem_of_mem h1
    exact h j m' (by rw [List.getElem?_eq_getElem hj, e])
  · rw [List.mem_singleton.1 h1]; exact hm

set_option maxRecDepth 100000 in
set_option maxHeartbeats 4000000 in
theorem most_yes (A : Option Addr) (n c : Nat) (l : List (Int × Int)) (S : Nat) (w : World) (h : MAt w A n c l) (h8 : S < 256) (hall : l.all rightM = true)
    (HR : Hid (Calls Tryd.prog 30 #[.int .u32 (S : Int), .slice A n c] w (Said (.int .i64 0) w))) :
    Calls Tryd.prog 20 #[.slice A n c, .int .u32 (S : Int)] w (Said (.tuple #[.int .i64 ((mostN (hards l) S : Nat) : Int), .int .i64 0]) w) := by
  obtain ⟨i0, hi, hz0, hz1, hz2⟩ := info_parts mask_info
  have HAt := Lib.hid h
  have HL := Lib.hid h.len
  have H100 := Lib.hid h.2.2.1
  have HAll := Lib.hid (all_right hall)
  have H8 := Lib.hid h8
  clear h h8 hall
  go_enter Tryd.func20, Tryd.ntmps20
  go_wp2_with fail
  refine HR.out.mono ?_
  rintro e w1 ⟨rfl, h1⟩
  have HK0 : Hid (Kept l S w 0 (.slice none 0 0) [] w1) := Lib.hid ⟨World.ownsRow_nil _ _ _ _, rfl, fun i m hm => by simp at hm, rfl, Nat.le_refl _, h1⟩
  clear h1 HR
  go_wp2_with fail
  go_loopw [7, 21] (fun v i wr => ∃ (k : Nat) (K : List (Int × Int)), k ≤ n ∧ i = .int .i64 (k : Int) ∧ Hid (Kept l S w k v K wr)) (fun _ i _ => n - (intOf i).toNat)
  case atStart => exact ⟨0, [], by omega, rfl, HK0⟩
  case round =>
    clear HK0
    obtain ⟨k, K, hk, rfl, HK⟩ := hrel
    by_cases hlt : k < n
    · obtain ⟨⟨x, y⟩, hm⟩ := elem_at (l := l) (k := k) (by rw [HL.out]; exact hlt)
      obtain ⟨ad, rfl, hb, d0, d1⟩ := mask_at (HAt.out.1.below HK.out.below) hm
      obtain ⟨A2, c2, rfl, _, _⟩ := own_reads HK.out.row
      have HX := Lib.hid (show l[k]? = some (x, y) ∧ UM (x, y) ∧ rightM (x, y) = true ∧ K.length < 100 ∧ k < n from ⟨hm, HAt.out.2.2.2.1 k _ hm, HAll.out k _ hm, by have := HK.out.le; have := H100.out; omega, hlt⟩)
      have hbs := HK.out.below.size
      have hk9 : k < 100 := by have := H100.out; omega
      clear hm
      obtain ⟨q, hq⟩ : ∃ q, fitsN (hards (K ++ [(x, y)])) S = q := ⟨_, rfl⟩
      have HQ := Lib.hid hq
      clear hq
      go_wp2_with (at_builtin; refine wpList_append_keeps _ rfl _ _ 37 rfl w.heap.size 25 i0 (.agg #[.int .u32 0, .int .u32 0]) 2 8 Tryd.underlying37 hi hz0 hz1 hz2 rfl (by decide) _ _ _ rfl ((HK.out.row.alloc _).alloc _) ⟨wr.heap.size + 1, 0, none⟩ 1 1 [.int .u32 x, .int .u32 y] rfl rfl (cells_new _ _ (by simp) _ _ _) (by intro u hu; simp at hu; rcases hu with rfl | rfl <;> rfl) (by have := HX.out.2.2.2.1; simp only [maxLen]; omega) (by have := HX.out.2.2.2.1; omega) (by simp; omega) ?_; intro v4 w4 own4 old4 grow4; rw [← mvs_snoc] at own4; obtain ⟨A4, c4, rfl, hc4, r4⟩ := own_reads own4; have HG := Lib.hid (((HK.out.below.alloc hbs _).alloc (Nat.le_trans hbs (by simp)) _).grown grow4 (by simp; omega) (fun g hg => ((HK.out.row.lt g hg).1))); have HOwn := Lib.hid own4; have HOld := Lib.hid old4; have HAt4 : Hid (MAt w4 A4 (K.length + 1) c4 (K ++ [(x, y)])) := Lib.hid ⟨r4, hc4, by have := HX.out.2.2.2.1; omega, um_snoc HK.out.um HX.out.2.1, HAt.out.2.2.2.2.below HG.out HAt.out.2.2.2.2.lt⟩; clear own4 old4 grow4 hc4 r4)
      refine (choose_any A4 (K.length + 1) c4 (K ++ [(x, y)]) S w4 HAt4.out (by rw [List.all_append, HK.out.all]; simp [HX.out.2.2.1]) H8.out).mono ?_
      rintro e w5 ⟨A5, n5, c5, rfl, -, -, -, h5⟩
      rw [HQ.out]
      have HB5 := Lib.hid (HG.out.trans (h5.mono HG.out.size))
      have hgr : hards (l.take (k + 1)) = hards (l.take k) ++ [x.toNat] := hards_take HX.out.1
      have hks : hards (K ++ [(x, y)]) = hards K ++ [x.toNat] := by unfold hards; rw [List.map_append]; rfl
      cases q with
      | true =>
        have HKn : Hid (Kept l S w (k + 1) (.slice A4 (K.length + 1) c4) (K ++ [(x, y)]) w5) := Lib.hid ⟨by rw [List.length_append]; exact own_below HOwn.out h5, by rw [List.all_append, HK.out.all]; simp [HX.out.2.2.1], um_snoc HK.out.um HX.out.2.1, by rw [hgr, greedy_snoc, ← HK.out.greedy, ← hks, if_pos HQ.out], by have := HK.out.le; simp; omega, HB5.out⟩
        clear h5 hgr hks
        go_wp2
        go_roundw
        case rel => exact ⟨k + 1, _, HX.out.2.2.2.2, by go_num, HKn⟩
        case measure => have := HX.out.2.2.2.2; simp [intOf] <;> omega
      | false =>
        have HKn : Hid (Kept l S w (k + 1) (.slice A2 K.length c2) K w5) := Lib.hid ⟨own_below HOld.out h5, HK.out.all, HK.out.um, by rw [hgr, greedy_snoc, ← HK.out.greedy, ← hks, if_neg (by rw [HQ.out]; simp)], by have := HK.out.le; omega, HB5.out⟩
        clear h5 hgr hks
        go_wp2
        go_roundw
        case rel => exact ⟨k + 1, _, HX.out.2.2.2.2, by go_num, HKn⟩
        case measure => have := HX.out.2.2.2.2; simp [intOf] <;> omega
    · obtain rfl : n = k := by omega
      obtain ⟨A2, c2, rfl, _, _⟩ := own_reads HK.out.row
      have hv : K.length = mostN (hards l) S := by
        have h1 := HK.out.greedy
        rw [← HL.out, List.take_length] at h1
        rw [← greedy_most, ← h1, length_hards]
      have HB := Lib.hid HK.out.below
      have HV := Lib.hid hv
      clear hv HK
      go_wp2
      go_ret2
      exact ⟨by rw [← HV.out]; rfl, HB.out⟩

set_option maxRecDepth 100000 in
set_option maxHeartbeats 2000000 in
theorem most_any (A : Option Addr) (n c : Nat) (l : List (Int × Int)) (s : Int) (w : World) (h : MAt w A n c l) (hs : U32 s) : Calls Tryd.prog 20 #[.slice A n c, .int .u32 s] w (Said (.tuple #[.int .i64 (mostR l s).1, .int .i64 (mostR l s).2]) w) := by
  have HR := Lib.hid (refused_any A n c l s w h.1 h.2.2.2.1 (by have := h.2.2.1; omega) hs)
  by_cases hE : errM l s = 0
  · obtain ⟨hall, h256, h16⟩ := err_none hE
    obtain ⟨S, rfl⟩ := Int.eq_ofNat_of_zero_le hs.1
    rw [hE] at HR
    have hv : mostR l (S : Int) = (((mostN (hards l) S : Nat) : Int), 0) := by unfold mostR; rw [if_pos hE, Int.toNat_natCast]
    rw [hv]
    exact most_yes A n c l S w h (by omega) hall HR
  · have hv : mostR l s = (0, errM l s) := if_neg hE
    rw [hv]
    have hz : (errM l s == 0) = false := by simpa using hE
    generalize errM l s = E at *
    clear h hs hE hv
    go_enter Tryd.func20, Tryd.ntmps20
    go_wp2_with fail
    refine HR.out.mono ?_
    rintro e w2 ⟨rfl, h2⟩
    go_wp2
    go_ret2
    exact ⟨rfl, h2⟩
theorem mmost_ok : MMostOk := fun A n c l s u h hs => most_any A n c l s u h hs

end Go.Proofs.YtcdlhfhachpcdaaDoor
