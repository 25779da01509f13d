/-
  The landed place: Check, refused, of, put, the two takings, turns. No statement is proved here.
-/
import Derived.Test.YtldleijocjohgaaDoorGd
namespace Go.Proofs.YtldleijocjohgaaDoor
open Go.RowKit

set_option maxRecDepth 100000 in
set_option maxHeartbeats 1000000 in
theorem pcheck_any (A : Option Addr) (n c : Nat) (l : List Wi) (w : World) (hR : Reads w w.heap.size 4 A n (wivs l)) (hU : ∀ (k : Nat) (x : Wi), l[k]? = some x → UW x) (hn : n ≤ 1000) :
    Calls Tryd.prog 12 #[.slice A n c] w (Said (.int .i64 (standE l)) w) := by
  have HS := Lib.hid (standing_any A n c l w hR hU hn)
  generalize standF l = F at *
  generalize standE l = E at *
  clear hR hU
  go_enter Tryd.func12, Tryd.ntmps12
  go_wp2_with fail
  refine HS.out.mono ?_
  rintro e w2 ⟨rfl, h2⟩
  unfold agH
  have B2 := Lib.hid (h2.alloc h2.size (.cells (agH F) 71))
  clear h2
  go_wp2
  go_ret
  exact ⟨rfl, B2.out⟩

/-- why nothing is asked -/
def whyE (l : List Wi) (s : Int) : Int := if rightW l = true then (if s < 256 then 0 else 140) else 230
theorem why_or (l : List Wi) (s : Int) : orL [standE l, chkV s] = whyE l s := by
  by_cases hr : rightW l = true <;> by_cases hs : s < 256 <;> simp [orL, standE, whyE, chkV, hr, hs]
theorem orE_two (u : World) (g : Nat) (hg : g = u.heap.size) (a b : Int) : Calls Tryd.prog 46 #[.slice (some ⟨g, 0, none⟩) 2 2] (u.alloc (.cells #[.int .i64 a, .int .i64 b] 27)) fun e w' => e = .returned (.int .i64 (orL [a, b])) ∧ (u.alloc (.cells #[.int .i64 a, .int .i64 b] 27)) = w' := by
  subst hg
  exact orE_any (some ⟨u.heap.size, 0, none⟩) 2 2 [a, b] _ (reads_new u 27 1 2 [.int .i64 a, .int .i64 b] rfl) (by omega)

set_option maxRecDepth 100000 in
set_option maxHeartbeats 1000000 in
theorem prefused_any (A : Option Addr) (n c : Nat) (l : List Wi) (s : Int) (w : World) (hs : U32 s) (hR : Reads w w.heap.size 4 A n (wivs l)) (hU : ∀ (k : Nat) (x : Wi), l[k]? = some x → UW x) (hn : n ≤ 1000) :
    Calls Tryd.prog 26 #[.slice A n c, .int .u32 s] w (Said (.int .i64 (whyE l s)) w) := by
  have HS := Lib.hid (pcheck_any A n c l w hR hU hn)
  have HC := Lib.hid (fun u => ccheck_any s u hs.1 hs.2)
  have HO := Lib.hid (fun (u : World) (g : Nat) (hg : g = u.heap.size) => orE_two u g hg (standE l) (chkV s))
  rw [why_or] at HO
  generalize standE l = E at *
  generalize chkV s = C at *
  generalize whyE l s = O at *
  clear hR hU hs
  go_enter Tryd.func26, Tryd.ntmps26
  go_wp2_with fail
  refine HS.out.mono ?_
  rintro e w2 ⟨rfl, h2⟩
  go_wp2_with fail
  refine (HC.out _).mono ?_
  rintro e w3 ⟨rfl, rfl⟩
  have B3 := Lib.hid (h2.alloc h2.size (.cells #[.int .i64 E, .int .i64 C] 27))
  clear h2
  go_wp2_with fail
  refine (HO.out _ _ rfl).mono ?_
  rintro e w4 ⟨rfl, rfl⟩
  go_wp2
  go_ret
  exact ⟨rfl, B3.out⟩

/-! ### of -/
theorem find_range (p : Nat → Bool) : ∀ n, (∀ k, k < n → p k = false) → (List.range n).find? p = none := by
  intro n h
  rw [List.find?_eq_none]
  intro k hk
  rw [h k (List.mem_range.1 hk)]
  simp
theorem find_hit {p : Nat → Bool} {k n : Nat} (h : ∀ j, j < k → p j = false) (hk : p k = true) (hn : k < n) : (List.range n).find? p = some k := by
  rw [List.find?_eq_some_iff_getElem]
  refine ⟨hk, k, by simpa using hn, by simp, fun j hj => ?_⟩
  simp [h j hj]
def indexV (F : Nat → Int) (v : Int) : Int := match (List.range 8).find? (fun c => F c == v) with | some c => (c : Int) | none => -1
theorem index_hit {F : Nat → Int} {v : Int} {k : Nat} (h : ∀ j, j < k → F j ≠ v) (hk : F k = v) (hn : k < 8) : indexV F v = (k : Int) := by
  unfold indexV
  rw [find_hit (p := fun c => F c == v) (fun j hj => by simpa using h j hj) (by simpa using hk) hn]
theorem index_miss {F : Nat → Int} {v : Int} (h : ∀ j, j < 8 → F j ≠ v) : indexV F v = -1 := by
  unfold indexV
  rw [find_range (fun c => F c == v) 8 (fun j hj => by simpa using h j hj)]
theorem of_index (F : Nat → Int) (v : Int) : ofV F v = if v = 0 ∨ indexV F v < 0 then (0, false) else (indexV F v, true) := by
  unfold ofV indexV
  by_cases hv : v = 0
  · rw [if_pos hv, if_pos (.inl hv)]
  · rw [if_neg hv]
    cases h : (List.range 8).find? (fun c => F c == v) with
    | none => rw [if_pos (.inr (by decide))]
    | some c =>
      rw [if_neg]
      rintro (h | h)
      · exact hv h
      · have h : (c : Int) < 0 := h
        omega

set_option maxRecDepth 100000 in
set_option maxHeartbeats 1000000 in
theorem index_any (B : Nat) (F : Nat → Int) (v : Int) (w : World) (K : Blk w B 71 (agH F)) :
    Calls Tryd.prog 56 #[.slice (some ⟨B, 0, none⟩) 8 8, .int .i64 v] w fun e w' => e = .returned (.int .i64 (indexV F v)) ∧ w = w' := by
  have HK := Lib.hid K
  generalize hE : indexV F v = E
  have HE := Lib.hid hE
  clear K hE
  go_enter Tryd.func56, Tryd.ntmps56
  go_wp2_with fail
  go_loop [8, 5] (fun i _ => ∃ k : Nat, k ≤ 8 ∧ i = .int .i64 (k : Int) ∧ Hid (∀ j, j < k → F j ≠ v)) (fun i _ => 8 - (intOf i).toNat)
  case atStart => exact ⟨0, by omega, rfl, Lib.hid (fun j hj => by omega)⟩
  case round =>
    obtain ⟨k, hk, rfl, HA⟩ := hrel
    by_cases hlt : k < 8
    · have z := (HK.out.cell k).trans (agH_at F hlt)
      have i1 : (0 : Int) ≤ (k : Int) := by omega
      have i2 : (k : Int) < 8 := by omega
      by_cases he : v = F k
      · have q : (v == F k) = true := by simp [he]
        have HV := Lib.hid (index_hit HA.out he.symm hlt)
        clear he
        go_wp2
        go_ret
        exact ⟨retI (HE.out.symm.trans HV.out).symm, rfl⟩
      · have q : (v == F k) = false := by simpa using he
        have HA2 : Hid (∀ j, j < k + 1 → F j ≠ v) := Lib.hid (fun j hj => by
          by_cases e : j = k
          · subst e; exact fun h => he h.symm
          · exact HA.out j (by omega))
        clear he
        go_wp2
        go_round
        case rel => exact ⟨k + 1, by omega, by go_num, HA2⟩
        case measure => simp [intOf] <;> omega
    · obtain rfl : k = 8 := by omega
      have HV := Lib.hid (index_miss HA.out)
      go_wp2
      go_ret
      exact ⟨retI (HE.out.symm.trans HV.out).symm, rfl⟩

set_option maxRecDepth 100000 in
set_option maxHeartbeats 1000000 in
theorem of_any (F : Nat → Int) (v : Int) (w : World) :
    Calls Tryd.prog 38 #[.agg (agH F), .int .i64 v] w (Said (.tuple #[.int .i64 (ofV F v).1, .bool (ofV F v).2]) w) := by
  have K := Blk.new w 71 (agH F)
  have HB := Lib.hid ((Below.refl w.heap.size w).alloc (Nat.le_refl _) (.cells (agH F) 71))
  have HX := Lib.hid (index_any w.heap.size F v _ K)
  rw [of_index]
  unfold agH at HX HB K ⊢
  generalize indexV F v = i at *
  clear K
  by_cases hv : v = 0
  · have q : (v == 0) = true := by simp [hv]
    rw [if_pos (.inl hv)]
    clear hv
    go_enter Tryd.func38, Tryd.ntmps38
    go_wp2_with fail
    refine HX.out.mono ?_
    rintro e w2 ⟨rfl, rfl⟩
    go_wp2
    go_ret2
    exact ⟨rfl, HB.out⟩
  · have q : (v == 0) = false := by simpa using hv
    by_cases hi : i < 0
    · have q2 : decide (i < 0) = true := decide_eq_true hi
      rw [if_pos (.inr hi)]
      clear hv hi
      go_enter Tryd.func38, Tryd.ntmps38
      go_wp2_with fail
      refine HX.out.mono ?_
      rintro e w2 ⟨rfl, rfl⟩
      go_wp2
      go_ret2
      exact ⟨rfl, HB.out⟩
    · have q2 : decide (i < 0) = false := decide_eq_false hi
      rw [if_neg (by rintro (h | h); exact hv h; exact hi h)]
      clear hv hi
      go_enter Tryd.func38, Tryd.ntmps38
      go_wp2_with fail
      refine HX.out.mono ?_
      rintro e w2 ⟨rfl, rfl⟩
      go_wp2
      go_ret2
      exact ⟨rfl, HB.out⟩

/-! ### the two takings -/
def wiA (x : Wi) : Array Value := #[.int .i64 x.v, .int .i64 x.a, .int .u32 x.h, .int .u32 x.s]
set_option maxRecDepth 100000 in
set_option maxHeartbeats 1000000 in
theorem pbest_any (x : Wi) (hx : UW x) (S : Nat) (hS : S < 256) (w : World) (hD : Db w) :
    Calls Tryd.prog 28 #[.agg (wiA x), .int .u32 (S : Int)] w (Said (.tuple #[.int .i64 (bestW x S).1, .bool (bestW x S).2]) w) := by
  obtain ⟨v, a, h, s⟩ := x
  unfold bestW wiA
  have HC := Lib.hid (fun u (hu : Db u) => best_any h s (S : Int) a u hu hx.1 hx.2 ⟨by omega, by omega⟩)
  have K := Blk.new w 43 #[.int .i64 v, .int .i64 a, .int .u32 h, .int .u32 s]
  have B := (Below.refl w.heap.size w).alloc (Nat.le_refl _) (.cells #[.int .i64 v, .int .i64 a, .int .u32 h, .int .u32 s] 43)
  have HD := Lib.hid (hD.below B hD.lt)
  have z1 := K.cell 1
  have z2 := K.cell 2
  have z3 := K.cell 3
  have HB := Lib.hid B
  clear K B hx hS hD
  dsimp only
  generalize bestR (h, s) (S : Int) a = R at *
  obtain ⟨R1, R2⟩ := R
  dsimp only at *
  go_enter Tryd.func28, Tryd.ntmps28
  go_wp2_with fail
  refine (HC.out _ HD.out).mono ?_
  rintro e w2 ⟨rfl, h2⟩
  go_wp2
  go_ret2
  exact ⟨rfl, HB.out.trans (h2.mono HB.out.size)⟩

set_option maxRecDepth 100000 in
set_option maxHeartbeats 1000000 in
theorem ptold_any (x : Wi) (S : Nat) (B : Nat) (F : Nat → Int) (w : World) (K : Blk w B 71 (agH F)) :
    Calls Tryd.prog 37 #[.agg (wiA x), .int .u32 (S : Int), .pointer (some ⟨B, 0, none⟩)] w (Said (.tuple #[.int .i64 (toldW F x S).1, .bool (toldW F x S).2]) w) := by
  obtain ⟨v, a, h, s⟩ := x
  unfold toldW wiA
  have HC := Lib.hid (fun u => of_any F v u)
  have KN := Blk.new w 43 #[.int .i64 v, .int .i64 a, .int .u32 h, .int .u32 s]
  have GB := (Below.refl w.heap.size w).alloc (Nat.le_refl _) (.cells #[.int .i64 v, .int .i64 a, .int .u32 h, .int .u32 s] 43)
  have K1 := K.alloc (.cells #[.int .i64 v, .int .i64 a, .int .u32 h, .int .u32 s] 43)
  have z0 := KN.cell 0
  have HB := Lib.hid GB
  dsimp only
  unfold agH at HC K1
  generalize ofV F v = R at *
  obtain ⟨R1, R2⟩ := R
  dsimp only at *
  have c0 := K1.cell 0
  have c1 := K1.cell 1
  have c2 := K1.cell 2
  have c3 := K1.cell 3
  have c4 := K1.cell 4
  have c5 := K1.cell 5
  have c6 := K1.cell 6
  have c7 := K1.cell 7
  clear KN GB K K1
  go_enter Tryd.func37, Tryd.ntmps37
  go_wp2_with fail
  refine (HC.out _).mono ?_
  rintro e w2 ⟨rfl, h2⟩
  clear c0 c1 c2 c3 c4 c5 c6 c7
  go_wp2
  go_ret2
  exact ⟨rfl, HB.out.trans (h2.mono HB.out.size)⟩

set_option maxRecDepth 100000 in
set_option maxHeartbeats 1000000 in
theorem put_any (t : Tu) (w : World) : Calls Tryd.prog 29 #[.agg (tuA t)] w (Said (.agg #[.int .i64 t.w.v, .int .i64 t.c]) w) := by
  obtain ⟨⟨v, a, h, s⟩, c, p, L⟩ := t
  unfold tuA
  dsimp only
  obtain ⟨K1, K2, GB⟩ := blks2 w 66 52 #[.int .i64 v, .int .i64 a, .int .u32 h, .int .u32 s, .int .i64 c, .bool p] #[.int .i64 0, .int .i64 0]
  have z0 := K1.cell 0
  have z4 := K1.cell 4
  obtain ⟨N1, N2, NB⟩ := blks2 w 66 52 #[.int .i64 v, .int .i64 a, .int .u32 h, .int .u32 s, .int .i64 c, .bool p] #[.int .i64 v, .int .i64 c]
  have HP := Lib.hid (And.intro N2 NB)
  clear K1 K2 GB N1 N2 NB
  go_enter Tryd.func29, Tryd.ntmps29
  go_wp2_with fail
  exact bodyPost_ret (v := .agg #[.int .i64 v, .int .i64 c]) (results_cell_row1 Tryd.results29 _ _ _ _ _ _ rfl HP.out.1 Tryd.underlying52 rfl (by kernel_rfl)) rfl ⟨rfl, HP.out.2⟩

set_option maxRecDepth 100000 in
set_option maxHeartbeats 1000000 in
theorem turns_any (A : Option Addr) (n c : Nat) (s : Int) (f : Fn) (caps : Array Value) (w : World) : Calls Tryd.prog 27 #[.slice A n c, .int .u32 s, .func f #[] caps] w fun e w' =>
    e = .returned (.func (.func 48) #[] #[.pointer (some ⟨w.heap.size + 1, 0, none⟩), .pointer (some ⟨w.heap.size, 0, none⟩), .pointer (some ⟨w.heap.size + 1 + 1, 0, none⟩)]) ∧
      w' = ((w.alloc (.cells #[.slice A n c] 22)).alloc (.cells #[.int .u32 s] 24)).alloc (.cells #[.func f #[] caps] 87) := by
  go_enter Tryd.func27, Tryd.ntmps27
  go_wp2
  go_ret
  exact ⟨rfl, rfl⟩

end Go.Proofs.YtldleijocjohgaaDoor
