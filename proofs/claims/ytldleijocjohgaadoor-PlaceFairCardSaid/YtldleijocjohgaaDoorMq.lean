/-
  The landed mask: Allows, Likes, Best. No statement is proved here.
-/
import Derived.Test.YtldleijocjohgaaDoorMp
import Derived.Test.YtldleijocjohgaaDoorMl
import Derived.Test.YtldleijocjohgaaDoorMf
namespace Go.Proofs.YtldleijocjohgaaDoor
open Go.RowKit

theorem refused_one (u : World) (g : Nat) (hg : g = u.heap.size) (x y s : Int) (hx : U32 x) (hy : U32 y) (hs : U32 s) : Calls Tryd.prog 44 #[.int .u32 s, .slice (some ⟨g, 0, none⟩) 1 1] (u.alloc (.cells #[.int .u32 x, .int .u32 y] 41)) (Said (.int .i64 (errM [(x, y)] s)) (u.alloc (.cells #[.int .u32 x, .int .u32 y] 41))) := by
  subst hg
  exact refused_any (some ⟨u.heap.size, 0, none⟩) 1 1 [(x, y)] s (u.alloc (.cells #[.int .u32 x, .int .u32 y] 41)) (reads_one u x y) (one_um hx hy) (by omega) hs
theorem err_one {x y s : Int} : (rightM (x, y) && decide (s < 256)) = true ↔ errM [(x, y)] s = 0 := by
  unfold errM
  cases h1 : rightM (x, y) <;> by_cases h2 : s < 256 <;> simp [h1, h2]

set_option maxRecDepth 100000 in
set_option maxHeartbeats 1000000 in
theorem allows_any (x y s : Int) (w : World) (hx : U32 x) (hy : U32 y) (hs : U32 s) : Calls Tryd.prog 23 #[.agg #[.int .u32 x, .int .u32 y], .int .u32 s] w (Said (.int .u32 (allowsR (x, y) s : Int)) w) := by
  have HC := Lib.hid (fun (u : World) (g : Nat) (hg : g = u.heap.size) => refused_one u g hg x y s hx hy hs)
  have HV := Lib.hid (and_nat hx hs)
  obtain ⟨K, B⟩ : Blk ((w.alloc (.cells #[.int .u32 x, .int .u32 y] 41)).alloc (.cells #[.int .u32 x, .int .u32 y] 41)) w.heap.size 41 #[.int .u32 x, .int .u32 y] ∧ Below w.heap.size w ((w.alloc (.cells #[.int .u32 x, .int .u32 y] 41)).alloc (.cells #[.int .u32 x, .int .u32 y] 41)) := ⟨(Blk.new _ _ _).alloc _, ((Below.refl _ _).alloc (Nat.le_refl _) _).alloc (by simp) _⟩
  have HK := Lib.hid K
  have HB := Lib.hid B
  clear K B
  by_cases he : errM [(x, y)] s = 0
  · have hv : allowsR (x, y) s = alN (x, y) s := if_pos (err_one.2 he)
    rw [hv]
    have HV2 : Hid (bits .and .u32 x s = (alN (x, y) s : Int)) := HV
    generalize alN (x, y) s = a at *
    rw [he] at HC
    clear he hv hx hy hs HV
    go_enter Tryd.func23, Tryd.ntmps23
    go_wp2_with fail
    refine (HC.out _ _ (by simp)).mono ?_
    rintro e w2 ⟨rfl, h2⟩
    have K2 := HK.out.below h2 HK.out.lt
    have B2 := HB.out.trans (h2.mono HB.out.size)
    have c0 : w2.cell? ⟨w.heap.size, 0, none⟩ = some (.int .u32 x) := K2.cell 0
    clear h2 K2
    go_wp2
    go_ret
    exact ⟨by simp [HV2.out], B2⟩
  · have hv : allowsR (x, y) s = 0 := if_neg (fun h => he (err_one.1 h))
    rw [hv]
    have hz : (errM [(x, y)] s == 0) = false := by simpa using he
    generalize errM [(x, y)] s = E at *
    clear he hv hx hy hs HV
    go_enter Tryd.func23, Tryd.ntmps23
    go_wp2_with fail
    refine (HC.out _ _ (by simp)).mono ?_
    rintro e w2 ⟨rfl, h2⟩
    have B2 := HB.out.trans (h2.mono HB.out.size)
    clear h2
    go_wp2
    go_ret
    exact ⟨rfl, B2⟩
theorem mallows_ok : MAllowsOk := fun x y s u hx hy hs => allows_any x y s u hx hy hs

theorem al_small {x y s : Int} (h0 : 0 ≤ x) : allowsR (x, y) s < 256 := by
  unfold allowsR
  split
  · rename_i h
    simp only [Bool.and_eq_true] at h
    have := h.1
    unfold rightM at this
    simp only [Bool.and_eq_true, decide_eq_true_eq] at this
    exact alN_lt this.1.1 h0
  · omega
theorem likes_eq (x y s : Int) : likesR (x, y) s = if 0 < allowsR (x, y) s &&& y.toNat then allowsR (x, y) s &&& y.toNat else allowsR (x, y) s := by
  unfold likesR allowsR liN
  by_cases h : (rightM (x, y) && decide (s < 256)) = true
  · rw [if_pos h, if_pos h]
  · rw [if_neg h, if_neg h]; simp
theorem likes_or (a b : Nat) : orL [((b : Nat) : Int), (a : Int)] = ((if 0 < b then b else a : Nat) : Int) := by
  unfold orL orL orL
  by_cases hb : 0 < b
  · rw [if_neg (by omega), if_pos hb]
  · rw [if_pos (by omega), if_neg hb]
    by_cases ha : (a : Int) = 0
    · rw [if_pos ha]; exact ha.symm
    · rw [if_neg ha]
theorem orC_two (u : World) (g : Nat) (hg : g = u.heap.size) (a b : Int) : Calls Tryd.prog 63 #[.slice (some ⟨g, 0, none⟩) 2 2] (u.alloc (.cells #[.int .u32 a, .int .u32 b] 24)) fun e w' => e = .returned (.int .u32 (orL [a, b])) ∧ (u.alloc (.cells #[.int .u32 a, .int .u32 b] 24)) = w' := by
  subst hg
  exact orC_any (some ⟨u.heap.size, 0, none⟩) 2 2 [a, b] _ (reads_new u 24 1 2 [.int .u32 a, .int .u32 b] rfl) (by omega)

set_option maxRecDepth 100000 in
set_option maxHeartbeats 1000000 in
theorem likes_any (x y s : Int) (w : World) (hx : U32 x) (hy : U32 y) (hs : U32 s) : Calls Tryd.prog 60 #[.agg #[.int .u32 x, .int .u32 y], .int .u32 s] w (Said (.int .u32 (likesR (x, y) s : Int)) w) := by
  have HA := Lib.hid (fun (u : World) => allows_any x y s u hx hy hs)
  have ha : allowsR (x, y) s < 256 := al_small hx.1
  rw [likes_eq]
  generalize allowsR (x, y) s = a at *
  have hv := and_nat (x := ((a : Nat) : Int)) (y := y) ⟨by omega, by omega⟩ hy
  rw [Int.toNat_natCast] at hv
  have HO := Lib.hid (fun (u : World) (g : Nat) (hg : g = u.heap.size) => orC_two u g hg ((a &&& y.toNat : Nat) : Int) (a : Int))
  rw [likes_or] at HO
  generalize (if 0 < a &&& y.toNat then a &&& y.toNat else a) = L at *
  generalize a &&& y.toNat = b at *
  have HV := Lib.hid hv
  obtain ⟨K, B⟩ : Blk (w.alloc (.cells #[.int .u32 x, .int .u32 y] 41)) w.heap.size 41 #[.int .u32 x, .int .u32 y] ∧ Below w.heap.size w (w.alloc (.cells #[.int .u32 x, .int .u32 y] 41)) := ⟨Blk.new _ _ _, (Below.refl _ _).alloc (Nat.le_refl _) _⟩
  have HK := Lib.hid K
  have HB := Lib.hid B
  clear K B hx hy hs ha hv
  go_enter Tryd.func60, Tryd.ntmps60
  go_wp2_with fail
  refine (HA.out _).mono ?_
  rintro e w2 ⟨rfl, h2⟩
  have K2 := HK.out.below h2 HK.out.lt
  have B2 := HB.out.trans (h2.mono HB.out.size)
  have c1 : w2.cell? ⟨w.heap.size, 1, none⟩ = some (.int .u32 y) := K2.cell 1
  have B3 := Lib.hid (B2.alloc B2.size (.cells #[.int .u32 ((b : Nat) : Int), .int .u32 (a : Int)] 24))
  have hv := HV.out
  clear h2 K2 B2
  go_wp2_with fail
  refine (HO.out _ _ rfl).mono ?_
  rintro e w3 ⟨rfl, rfl⟩
  clear hv
  go_wp2
  go_ret
  exact ⟨rfl, B3.out⟩
theorem mlikes_ok : MLikesOk := fun x y s u hx hy hs => likes_any x y s u hx hy hs
theorem li_small {x y s : Int} (h0 : 0 ≤ x) : likesR (x, y) s < 256 := by
  rw [likes_eq]
  have := al_small (y := y) (s := s) h0
  split
  · exact and_lt this
  · exact this

set_option maxRecDepth 100000 in
set_option maxHeartbeats 1000000 in
theorem best_any (x y s t : Int) (w : World) (hD : Db w) (hx : U32 x) (hy : U32 y) (hs : U32 s) : Calls Tryd.prog 49 #[.agg #[.int .u32 x, .int .u32 y], .int .u32 s, .int .i64 t] w (Said (.tuple #[.int .i64 (bestR (x, y) s t).1, .bool (bestR (x, y) s t).2]) w) := by
  have HA := Lib.hid (fun (u : World) => allows_any x y s u hx hy hs)
  have HL := Lib.hid (fun (u : World) => likes_any x y s u hx hy hs)
  have ha : allowsR (x, y) s < 256 := al_small hx.1
  have hl : likesR (x, y) s < 256 := li_small hx.1
  unfold bestR
  generalize allowsR (x, y) s = a at *
  generalize likesR (x, y) s = l at *
  have HH := Lib.hid (fun (u : World) => has_any (a : Int) t u (by omega) (by omega))
  have HN := Lib.hid (fun (u : World) (h : Db u) => next_any (l : Int) (-1) u (by omega) (by omega) h)
  obtain ⟨K, B⟩ : Blk (w.alloc (.cells #[.int .u32 x, .int .u32 y] 41)) w.heap.size 41 #[.int .u32 x, .int .u32 y] ∧ Below w.heap.size w (w.alloc (.cells #[.int .u32 x, .int .u32 y] 41)) := ⟨Blk.new _ _ _, (Below.refl _ _).alloc (Nat.le_refl _) _⟩
  have HK := Lib.hid K
  have HB := Lib.hid B
  have HD := Lib.hid hD
  have c0 : (w.alloc (.cells #[.int .u32 x, .int .u32 y] 41)).cell? ⟨w.heap.size, 0, none⟩ = some (.int .u32 x) := K.cell 0
  have c1 : (w.alloc (.cells #[.int .u32 x, .int .u32 y] 41)).cell? ⟨w.heap.size, 1, none⟩ = some (.int .u32 y) := K.cell 1
  clear K B hx hy hs ha hl hD
  cases hh : hasB (a : Int) t with
  | true =>
    rw [hh] at HH
    rw [if_pos rfl]
    clear hh
    go_enter Tryd.func49, Tryd.ntmps49
    go_wp2_with fail
    refine (HA.out _).mono ?_
    rintro e w2 ⟨rfl, h2⟩
    have B2 := Lib.hid (HB.out.trans (h2.mono HB.out.size))
    clear h2
    go_wp2_with fail
    refine (HH.out _).mono ?_
    rintro e w3 ⟨rfl, rfl⟩
    go_wp2
    go_ret2
    exact ⟨rfl, B2.out⟩
  | false =>
    rw [hh] at HH
    rw [if_neg (by simp)]
    clear hh
    go_enter Tryd.func49, Tryd.ntmps49
    go_wp2_with fail
    refine (HA.out _).mono ?_
    rintro e w2 ⟨rfl, h2⟩
    have K2 := HK.out.below h2 HK.out.lt
    have B2 := HB.out.trans (h2.mono HB.out.size)
    have c0 : w2.cell? ⟨w.heap.size, 0, none⟩ = some (.int .u32 x) := K2.cell 0
    have c1 : w2.cell? ⟨w.heap.size, 1, none⟩ = some (.int .u32 y) := K2.cell 1
    clear h2 K2
    go_wp2_with fail
    refine (HH.out _).mono ?_
    rintro e w3 ⟨rfl, rfl⟩
    go_wp2_with fail
    refine (HL.out _).mono ?_
    rintro e w3 ⟨rfl, h2⟩
    have B3 := B2.trans (h2.mono B2.size)
    clear h2 c0 c1 B2
    go_wp2_with fail
    refine (HN.out _ (HD.out.below B3 HD.out.lt)).mono ?_
    rintro e w4 ⟨rfl, h2⟩
    have B4 := Lib.hid (B3.trans (h2.mono B3.size))
    clear h2 B3
    generalize nextV (mem (l : Int)) (-1) = N at *
    obtain ⟨N1, N2⟩ := N
    go_wp2
    go_ret2
    exact ⟨rfl, B4.out⟩
theorem mbest_ok : MBestOk := fun x y s a u hD hx hy hs => best_any x y s a u hD hx hy hs

end Go.Proofs.YtldleijocjohgaaDoor
