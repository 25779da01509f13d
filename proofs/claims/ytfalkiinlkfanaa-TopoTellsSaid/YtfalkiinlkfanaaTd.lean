/-
  The contracts of the document's Copy, and of the statements' own short. No statement is proved here.
-/
import Derived.Test.YtfalkiinlkfanaaTa
namespace Go.Proofs.Ytfalkiinlkfanaa
open Go.RowKit

theorem flat_take {α : Type} (enc : α → List Value) {size : Nat} (hs : ∀ a, (enc a).length = size) (l : List α) {m : Nat} (hm : m ≤ l.length) : flat enc (l.take m) = (flat enc l).take (m * size) := by
  have h1 : flat enc l = flat enc (l.take m) ++ flat enc (l.drop m) := by rw [← flat_append, List.take_append_drop]
  have h2 : (flat enc (l.take m)).length = m * size := by rw [length_flat enc hs, List.length_take, Nat.min_eq_left hm]
  rw [h1, ← h2, List.take_left']
  rfl
theorem Reads.first {w : World} {B n m size : Nat} {A : Option Addr} {xs : List Value} (h : Reads w B size A n xs) (hm : m ≤ n) : Reads w B size A m (xs.take (m * size)) := by
  have hl : m * size ≤ n * size := Nat.mul_le_mul_right size hm
  refine ⟨by rw [List.length_take, h.1]; omega, fun h0 => ?_⟩
  obtain ⟨ad, e, hb, hc⟩ := h.2 (by omega)
  refine ⟨ad, e, hb, fun j u hu => hc j u ?_⟩
  rw [List.getElem?_take] at hu
  split at hu
  · exact hu
  · cases hu
theorem reads_first {w : World} {B n : Nat} {A : Option Addr} {l : List (Int × Int)} (h : Reads w B 2 A n (svs l)) {m : Nat} (hm : m ≤ n) : Reads w B 2 A m (svs (l.take m)) := by
  have hl := reads_len h
  unfold svs
  rw [flat_take sv length_sv l (by omega)]
  exact h.first hm
theorem seat_info : (Try.prog.info? 37).map (fun i => (i.zero, i.size, i.bytes)) = some (some (.agg #[.int .i64 0, .int .i64 0]), 2, 16) := by kernel_rfl
/-- it reads so, and lies in memory that was not there -/
def FarReads (w w' : World) (size : Nat) (A : Option Addr) (n : Nat) (xs : List Value) : Prop := Reads w' w'.heap.size size A n xs ∧ ∀ ad, A = some ad → 0 < n → w.heap.size ≤ ad.block
/-- a call answers a topology in memory of its own -/
def Gives (l : List (Int × Int)) (w : World) (e : Ending) (w' : World) : Prop :=
  ∃ A n c, e = .returned (.agg #[.slice A n c]) ∧ n = l.length ∧ n ≤ c ∧ FarReads w w' 2 A n (svs l) ∧ Below w.heap.size w w'
theorem put1 {w w1 : World} {g b : Nat} {t : TypeId} {p x : Value} (K : Blk w1 g t #[p]) (B : Below b w w1) (hg : b ≤ g) : Blk (w1.setCell ⟨g, 0, none⟩ x) g t #[x] ∧ Below b w (w1.setCell ⟨g, 0, none⟩ x) := by
  refine ⟨?_, B.setCell (p := ⟨g, 0, none⟩) hg x⟩
  have := K.set_ 0 x
  simpa using this

theorem own_far {w : World} {base n c size : Nat} {e : TypeId} {A : Option Addr} {xs : List Value} (h : w.ownsRow base e size (.slice A n c) n xs) {g : Nat} (hg : g < base) (i : Nat) (u : Value) :
    Reads (w.setCell ⟨g, i, none⟩ u) (w.setCell ⟨g, i, none⟩ u).heap.size size A n xs ∧ ∀ ad, A = some ad → 0 < n → base ≤ ad.block := by
  refine ⟨⟨h.1, fun h0 => ?_⟩, fun ad hA h0 => ?_⟩
  case refine_2 =>
    obtain ⟨g', cap, hv, hb', _⟩ := h.form h0
    have hA' : A = some ⟨g', 0, none⟩ := by injection hv
    rw [hA] at hA'
    obtain rfl := Option.some.inj hA'
    exact hb'
  obtain ⟨ad, e', hb, hc⟩ := (Reads.of_own h).2 h0
  obtain ⟨g', cap, hv, hb', _⟩ := h.form h0
  have hA : A = some ⟨g', 0, none⟩ := by injection hv
  rw [e'] at hA
  obtain rfl := Option.some.inj hA
  refine ⟨_, e', by simpa [World.setCell] using hb, fun j v hv => ?_⟩
  refine (World.cell?_setCell_other w ⟨g, i, none⟩ _ u (fun he => ?_)).trans (hc j v hv)
  have := congrArg Addr.block he
  rw [block_of_add] at this
  have : g = g' := by first | exact this | exact this.symm
  omega

set_option maxRecDepth 100000 in
set_option maxHeartbeats 2000000 in
theorem rcopy_any (A : Option Addr) (n c : Nat) (l : List (Int × Int)) (w : World) (hR : Reads w w.heap.size 2 A n (svs l)) (hn : n ≤ 100) :
    Calls Try.prog 37 #[.agg #[.slice A n c]] w (Gives l w) := by
  obtain ⟨i0, hi0, hz0, hz1, hz2⟩ := info_parts seat_info
  have HL := Lib.hid (reads_len hR)
  obtain ⟨K1, K2, B⟩ := blks2 w 27 27 #[.slice A n c] #[.slice none 0 0]
  have HB := Lib.hid (And.intro K2 B)
  have HR := Lib.hid (((hR.alloc (Nat.le_refl _) (.cells #[.slice A n c] 27)).alloc (by simp) (.cells #[.slice none 0 0] 27)).alloc (by simp <;> omega) (.cells #[] 37))
  clear hR K1 K2 B
  go_enter Try.func37, Try.ntmps37
  go_wp2_with (
    at_builtin
    refine wpList_append_any _ rfl (.tmp 3) (.tmp 5) 25 rfl (w.heap.size + 1 + 1) 37 i0 (.agg #[.int .i64 0, .int .i64 0]) 2 16 Try.underlying25 hi0 hz0 hz1 hz2 rfl (by decide) (.slice (some ⟨w.heap.size + 1 + 1, 0, none⟩) 0 0) 0 [] rfl (by simpa using World.ownsRow_made ((w.alloc (.cells #[.slice A n c] 27)).alloc (.cells #[.slice none 0 0] 27)) #[] 0 (by simp <;> omega) (by simp [maxLen]) (by simp)) w.heap.size A n c (svs l) rfl HR.out (svs_ones l) (by simp only [maxLen]; omega) (by omega) (by simp <;> omega) ?_
    intro v2 w2 hown2 hg2 _
    rw [List.nil_append, Nat.zero_add] at hown2
    have K2 := (HB.out.1.alloc (.cells #[] 37)).grown hg2 (by simp [Value.ownBlock])
    have B3 := HB.out.2.alloc HB.out.2.size (.cells #[] 37)
    have B2 : Below w.heap.size w w2 := B3.grown hg2 B3.size (fun g hg => by simp [Value.ownBlock] at hg; omega)
    clear B3
    obtain ⟨A2, c2, rfl, hc2, hr2⟩ := own_reads hown2
    have lt2 := K2.lt
    have HO := Lib.hid hown2
    clear hown2 hg2
    have d0 := K2.cell 0
    have f0 := K2.frozen 0
    have HKF := Lib.hid (put1 (x := .slice A2 n c2) K2 B2 (by omega))
    have HRR := Lib.hid (own_far HO.out (show w.heap.size + 1 < w.heap.size + 1 + 1 by omega) 0 (.slice A2 n c2))
    clear K2 B2 hr2)
  refine bodyPost_ret (v := .agg #[.slice A2 n c2]) (results_cell_row Try.results37 _ _ _ _ _ _ _ rfl HKF.out.1 Try.underlying27 rfl (by kernel_rfl)) rfl ⟨A2, n, c2, rfl, HL.out.symm, hc2, ⟨HRR.out.1, fun ad hA h0 => by have := HRR.out.2 ad hA h0; omega⟩, HKF.out.2⟩

/-- what a call laid lies apart from a block that stood before it -/
theorem reads_far {w w' : World} {n size g : Nat} {A : Option Addr} {xs : List Value} {t : TypeId} {cs : Array Value} (h : FarReads w w' size A n xs) (K : Blk w g t cs) (u : Value) : Reads (w'.setCell ⟨g, 0, none⟩ u) (w'.setCell ⟨g, 0, none⟩ u).heap.size size A n xs := by
  refine ⟨h.1.1, fun h0 => ?_⟩
  obtain ⟨ad, e', hb, hc⟩ := h.1.2 h0
  refine ⟨ad, e', by simpa [World.setCell] using hb, fun j v hv => ?_⟩
  refine (World.cell?_setCell_other w' ⟨g, 0, none⟩ _ u (fun he => ?_)).trans (hc j v hv)
  have h1 := congrArg Addr.block he
  rw [block_of_add] at h1
  have h2 := h.2 ad e' h0
  have h3 := K.lt
  have : g = ad.block := by first | exact h1 | exact h1.symm
  omega

set_option maxRecDepth 100000 in
set_option maxHeartbeats 2000000 in
theorem short_any (A : Option Addr) (n c : Nat) (l : List (Int × Int)) (w : World) (hR : Reads w w.heap.size 2 A n (svs l)) (hnc : n ≤ c) :
    Calls Try.prog 11 #[.agg #[.slice A n c]] w (Gives (l.take 9) w) := by
  have hl := reads_len hR
  obtain ⟨K1, K2, B⟩ := blks2 w 27 27 #[.slice A n c] #[.slice none 0 0]
  obtain ⟨m, hm⟩ : ∃ m, m = min n 9 := ⟨_, rfl⟩
  have hR2 : Reads w w.heap.size 2 A m (svs (l.take 9)) := by
    have := reads_first hR (m := m) (by omega)
    rwa [show l.take m = l.take 9 by rw [hm, ← hl]; simp; omega] at this
  have hmi : min (n : Int) 9 = (m : Int) := by omega
  have m0 : (m : Int) ≤ (c : Int) := by omega
  have m9 : m ≤ 9 := by omega
  have HR := Lib.hid hR2
  clear hR
  by_cases h9 : (9 : Int) < (n : Int)
  · obtain rfl : m = 9 := by omega
    clear hmi hl hm
    · skip
      have HG := Lib.hid (fun u (hb : Below w.heap.size w u) => rcopy_any A 9 c (l.take 9) u ((HR.out.below hb).more hb.size) (by omega))
      have HK := Lib.hid (And.intro K2 B)
      clear hR2 K1 K2 B
      go_enter Try.func11, Try.ntmps11
      go_wp2_with fail
      refine (HG.out _ HK.out.2).mono ?_
      rintro e w1 ⟨A2, n2, c2, rfl, hl2, hc2, hr2, h1⟩
      have K := HK.out.1.below h1 HK.out.1.lt
      have GB := HK.out.2.trans (h1.mono HK.out.2.size)
      have d0 := K.cell 0
      have f0 := K.frozen 0
      have HKF := Lib.hid (put1 (x := .slice A2 n2 c2) K GB (by omega))
      have HRR := Lib.hid (And.intro hl2 (And.intro hc2 (And.intro (reads_far hr2 HK.out.1 (.slice A2 n2 c2)) (fun ad hA h0 => Nat.le_trans HK.out.2.size (hr2.2 ad hA h0)))))
      clear K GB hr2 h1 hl2 hc2
      go_wp2_with fail
      exact bodyPost_ret (v := .agg #[.slice A2 n2 c2]) (results_cell_row Try.results11 _ _ _ _ _ _ _ rfl HKF.out.1 Try.underlying27 rfl (by kernel_rfl)) rfl ⟨A2, n2, c2, rfl, HRR.out.1, HRR.out.2.1, HRR.out.2.2, HKF.out.2⟩
  · obtain rfl : m = n := by omega
    clear hmi hl hm
    · skip
      have HG := Lib.hid (fun u (hb : Below w.heap.size w u) => rcopy_any A m c (l.take 9) u ((HR.out.below hb).more hb.size) (by omega))
      have HK := Lib.hid (And.intro K2 B)
      clear hR2 K1 K2 B
      go_enter Try.func11, Try.ntmps11
      go_wp2_with fail
      refine (HG.out _ HK.out.2).mono ?_
      rintro e w1 ⟨A2, n2, c2, rfl, hl2, hc2, hr2, h1⟩
      have K := HK.out.1.below h1 HK.out.1.lt
      have GB := HK.out.2.trans (h1.mono HK.out.2.size)
      have d0 := K.cell 0
      have f0 := K.frozen 0
      have HKF := Lib.hid (put1 (x := .slice A2 n2 c2) K GB (by omega))
      have HRR := Lib.hid (And.intro hl2 (And.intro hc2 (And.intro (reads_far hr2 HK.out.1 (.slice A2 n2 c2)) (fun ad hA h0 => Nat.le_trans HK.out.2.size (hr2.2 ad hA h0)))))
      clear K GB hr2 h1 hl2 hc2
      go_wp2_with fail
      exact bodyPost_ret (v := .agg #[.slice A2 n2 c2]) (results_cell_row Try.results11 _ _ _ _ _ _ _ rfl HKF.out.1 Try.underlying27 rfl (by kernel_rfl)) rfl ⟨A2, n2, c2, rfl, HRR.out.1, HRR.out.2.1, HRR.out.2.2, HKF.out.2⟩

end Go.Proofs.Ytfalkiinlkfanaa
