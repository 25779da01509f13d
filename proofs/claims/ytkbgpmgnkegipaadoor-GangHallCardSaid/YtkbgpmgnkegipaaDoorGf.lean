/-
  The landed gang: Match's closure, and the library's IndexFunc over it. No statement is proved here.
-/
import Derived.Test.YtkbgpmgnkegipaaDoorGe
namespace Go.Proofs.YtkbgpmgnkegipaaDoor
open Go.RowKit Go.Maps

/-! ### the first match, row by row -/
def pickB (T : List Int) (rest : List (List Int)) (x : Int) : Bool := !decide (x ∈ T) && (matchR rest (T ++ [x])).isSome
theorem nodup_snoc {T : List Int} {x : Int} (h : T.Nodup) : (T ++ [x]).Nodup ↔ x ∉ T := by
  rw [List.nodup_append]
  constructor
  · rintro ⟨_, _, h3⟩ hm
    exact h3 x hm x (by simp) rfl
  · intro hx
    refine ⟨h, by simp, fun a ha b hb e => ?_⟩
    rw [show b = x by simpa using hb] at e
    exact hx (e ▸ ha)
theorem set_ones (T : List Int) (row : List Int) (rest : List (List Int)) (x : Int) : (T.map (fun c => [c]) ++ row :: rest).set T.length [x] = (T ++ [x]).map (fun c => [c]) ++ rest := by
  simp
theorem fits_ones {T : List Int} (h : T.Nodup) (row : List Int) (rest : List (List Int)) (x : Int) : fitsB ((T.map (fun c => [c]) ++ row :: rest).set T.length [x]) = pickB T rest x := by
  rw [set_ones]
  have h1 := match_ones (T ++ [x]) [] rest
  rw [nodup_snoc h, List.nil_append] at h1
  unfold fitsB pickB
  cases hm : (matchR rest (T ++ [x])).isSome with
  | false =>
    cases hq : (matchR ((T ++ [x]).map (fun c => [c]) ++ rest) []).isSome with
    | false => simp
    | true =>
      have := (h1.1 hq).2.2
      rw [hm] at this; cases this
  | true =>
    by_cases hx : x ∈ T
    · cases hq : (matchR ((T ++ [x]).map (fun c => [c]) ++ rest) []).isSome with
      | false => simp [hx]
      | true => exact absurd hx (h1.1 hq).1
    · rw [h1.2 ⟨hx, fun _ _ => by simp, hm⟩]
      simp [hx]
/-- what the next row takes -/
theorem match_next {T M : List Int} {row : List Int} {rest : List (List Int)} (h : matchR (row :: rest) T = some M) :
    ∃ (j : Nat) (c : Int) (M' : List Int), M = c :: M' ∧ row[j]? = some c ∧ pickB T rest c = true ∧ (∀ y ∈ row.take j, pickB T rest y = false) ∧ matchR rest (T ++ [c]) = some M' ∧ c ∉ T := by
  have h : row.findSome? (fun c => if c ∈ T then none else (matchR rest (T ++ [c])).map fun m => c :: m) = some M := h
  rw [List.findSome?_eq_some_iff] at h
  obtain ⟨l1, c, l2, e, hc, hn⟩ := h
  by_cases hT : c ∈ T
  · rw [if_pos hT] at hc; cases hc
  · rw [if_neg hT] at hc
    cases hm : matchR rest (T ++ [c]) with
    | none => rw [hm] at hc; cases hc
    | some M' =>
      rw [hm] at hc
      refine ⟨l1.length, c, M', (Option.some.inj hc).symm, by rw [e]; simp, by unfold pickB; rw [hm]; simp [hT], fun y hy => ?_, hm, hT⟩
      rw [e, List.take_left' rfl] at hy
      have := hn y hy
      unfold pickB
      by_cases hy2 : y ∈ T
      · simp [hy2]
      · rw [if_neg hy2] at this
        cases hq : matchR rest (T ++ [y]) with
        | none => simp
        | some _ => rw [hq] at this; cases this

/-! ### what is left, in memory of its own -/
/-- a row of numbers that lies neither in block g nor in block q -/
def RdX (g : Nat) (q : Option Nat) (w : World) (x : Gg) : Prop :=
  (vs x.2.2.2).length = x.2.1 ∧ x.2.1 ≤ 100 ∧ (0 < x.2.1 → ∃ ad, x.1 = some ad ∧ ad.block < w.heap.size ∧ ad.block ≠ g ∧ some ad.block ≠ q ∧ ∀ j u, (vs x.2.2.2)[j]? = some u → w.cell? (ad.add j) = some u)
theorem RdX.ir {g : Nat} {q : Option Nat} {w : World} {x : Gg} (h : RdX g q w x) : IR w x.1 x.2.1 x.2.2.2 ∧ x.2.1 ≤ 100 := by
  refine ⟨⟨⟨by rw [h.1, Nat.mul_one], fun hn => ?_⟩, Nat.le_trans h.2.1 (by omega)⟩, h.2.1⟩
  obtain ⟨ad, e, h1, _, _, h2⟩ := h.2.2 hn
  exact ⟨ad, e, h1, h2⟩
theorem RdX.keep {g : Nat} {q : Option Nat} {w w' : World} {x : Gg} (h : RdX g q w x) {r : Option Nat} (hg : w.grownBy w' r) (hr : r = some g ∨ r = q) : RdX g q w' x := by
  refine ⟨h.1, h.2.1, fun hn => ?_⟩
  obtain ⟨ad, e, h1, h2, h3, h4⟩ := h.2.2 hn
  refine ⟨ad, e, Nat.lt_of_lt_of_le h1 hg.size, h2, h3, fun j u hj => ?_⟩
  rw [World.cell?_of_block (w := w) (by
    rw [block_of_add]
    refine hg.block _ h1 (fun he => ?_)
    rcases hr with e2 | e2
    · rw [e2] at he; exact h2 (Option.some.inj he)
    · rw [e2] at he; exact h3 he)]
  exact h4 j u hj
/-- another block is the one that may turn -/
theorem RdX.turn {g : Nat} {q q' : Option Nat} {w w' : World} {x : Gg} (h : RdX g q w x) (hg : w.grownBy w' q) (hq : q' = q ∨ q' = some w.heap.size) : RdX g q' w' x := by
  have h' := h.keep hg (.inr rfl)
  refine ⟨h'.1, h'.2.1, fun hn => ?_⟩
  obtain ⟨ad, e, h1, h2, h3, h4⟩ := h.2.2 hn
  obtain ⟨ad', e', g1, g2, g3, g4⟩ := h'.2.2 hn
  have : ad = ad' := Option.some.inj (e.symm.trans e')
  subst this
  refine ⟨ad, e, g1, g2, fun he => ?_, g4⟩
  rcases hq with e2 | e2
  · rw [e2] at he; exact h3 he
  · rw [e2] at he; have := Option.some.inj he; omega
structure LS (lb g c n : Nat) (q : Option Nat) (G : List Gg) (w : World) : Prop where
  box : Blk w lb 42 #[.slice (some ⟨g, 0, none⟩) n c]
  row : ∃ cur, Blk w g 27 cur ∧ cur.size = c ∧ cur.toList.take n = flat gv G
  each : ∀ y ∈ G, RdX g q w y
  ne : lb ≠ g
  nq : some lb ≠ q ∧ some g ≠ q
  nc : n ≤ c
  n9 : n ≤ 100
  len : G.length = n
  ql : ∀ b, q = some b → b < w.heap.size
section
variable {lb g c n : Nat} {q : Option Nat} {G : List Gg} {w w' : World}
theorem LS.keep (h : LS lb g c n q G w) (hg : w.grownBy w' none) : LS lb g c n q G w' := by
  obtain ⟨cur, h1, h2, h3⟩ := h.row
  exact ⟨h.box.grown hg (by simp), ⟨cur, h1.grown hg (by simp), h2, h3⟩, fun y hy => (h.each y hy).keep (r := some g) ⟨hg.os, hg.tape, hg.output, hg.size, fun k hk _ => hg.block k hk (by simp)⟩ (.inl rfl), h.ne, h.nq, h.nc, h.n9, h.len, fun b hb => Nat.lt_of_lt_of_le (h.ql b hb) hg.size⟩
theorem LS.gw (h : LS lb g c n q G w) : GW w (some ⟨g, 0, none⟩) n G := by
  obtain ⟨cur, h1, h2, h3⟩ := h.row
  refine ⟨⟨by rw [length_flat gv length_gv, h.len], fun hn => ⟨_, rfl, h1.lt, fun j u hj => ?_⟩⟩, h.n9, fun y hy => (h.each y hy).ir⟩
  rw [Addr.add_lit, Nat.zero_add, h1.cell j]
  rw [← h3, List.getElem?_take] at hj
  split at hj
  · simpa using hj
  · cases hj
theorem none_of_below (h : Below w.heap.size w w') : w.grownBy w' none := ⟨h.os, h.tape, h.output, h.size, fun k hk _ => h.block k hk⟩
end
theorem flat_set (G : List Gg) (k : Nat) (x : Gg) : (flat gv G).set k (.slice x.1 x.2.1 x.2.2.1) = flat gv (G.set k x) := by
  induction G generalizing k with
  | nil => rfl
  | cons y G ih =>
    cases k with
    | zero => rfl
    | succ k =>
      rw [flat_cons, List.set_cons_succ, flat_cons, ← ih]
      rfl
theorem gsI_set (G : List Gg) (k : Nat) (x : Gg) : gsI (G.set k x) = (gsI G).set k x.2.2.2 := by unfold gsI; rw [List.map_set]

/-- what the closure, and IndexFunc over it, come to -/
def Tried (lb g c n : Nat) (q : Option Nat) (G : List Gg) (k : Nat) (x : Int) (w w' : World) : Prop := w.grownBy w' (some g) ∧ ∃ ad : Addr, LS lb g c n q (G.set k (some ad, 1, 1, [x])) w'

set_option maxRecDepth 100000 in
set_option maxHeartbeats 8000000 in
theorem try_any (lb pb g c n : Nat) (q : Option Nat) (G : List Gg) (k : Nat) (x : Int) (w : World) (S : LS lb g c n q G w) (hP : Blk w pb 3 #[.int .i64 (k : Int)]) (hk : k < n) (hR : RowsG ((gsI G).set k [x])) :
    Calls Tryd.prog 33 #[.int .i64 x, .pointer (some ⟨lb, 0, none⟩), .pointer (some ⟨pb, 0, none⟩)] w fun e w' => e = .returned (.bool (fitsB ((gsI G).set k [x]))) ∧ Tried lb g c n q G k x w w' := by
  obtain ⟨cur, KR, hsz, htk⟩ := S.row
  have hgl := KR.lt
  have c0 := (S.box.alloc (.cells #[.int .i64 x] 3)).cell 0
  have d0 := S.box.cell 0
  have d1 := hP.cell 0
  have d2 := (hP.alloc (.cells #[.int .i64 x] 3)).cell 0
  obtain ⟨y, hy⟩ := elem_at (l := G) (k := k) (by rw [S.len]; exact hk)
  have hcur : cur[k]? = some (.slice y.1 y.2.1 y.2.2.1) := by
    have h1 : (flat gv G)[k]? = some (.slice y.1 y.2.1 y.2.2.1) := by
      have := flat_at gv length_gv hy 0 (by omega)
      rw [Nat.mul_one, Nat.add_zero] at this
      rw [this]; rfl
    rw [← htk, List.getElem?_take_of_lt hk] at h1
    simpa using h1
  have KA := KR.alloc (.cells #[.int .i64 x] 3)
  have k0 : (w.alloc (.cells #[.int .i64 x] 3)).cell? ⟨g, k, none⟩ = some (.slice y.1 y.2.1 y.2.2.1) := (KA.cell k).trans hcur
  have k1 := KA.frozen k
  obtain ⟨V, hV⟩ : ∃ V, (w.alloc (.cells #[.int .i64 x] 3)).setCell ⟨g, k, none⟩ (.slice (some ⟨w.heap.size, 0, none⟩) 1 1) = V := ⟨_, rfl⟩
  have KN := (Blk.new w 3 #[.int .i64 x])
  have GV : w.grownBy V (some g) := by
    rw [← hV]
    have h1 := (Below.refl g w).alloc (by omega) (.cells #[.int .i64 x] 3)
    have h2 := h1.setCell (p := ⟨g, k, none⟩) (Nat.le_refl g) (.slice (some ⟨w.heap.size, 0, none⟩) 1 1)
    exact ⟨h2.os, h2.tape, h2.output, h2.size, fun j hj hne => (Below.heap_setCell _ ⟨g, k, none⟩ _ j (fun e => hne (by rw [e]))).trans (Below.heap_alloc w _ j hj)⟩
  have SV : LS lb g c n q (G.set k (some ⟨w.heap.size, 0, none⟩, 1, 1, [x])) V := by
    refine ⟨S.box.grown GV (by have := S.ne; simpa using this), ⟨cur.setIfInBounds k (.slice (some ⟨w.heap.size, 0, none⟩) 1 1), ?_, by rw [Array.size_setIfInBounds, hsz], ?_⟩, fun z hz => ?_, S.ne, S.nq, S.nc, S.n9, by rw [List.length_set]; exact S.len, fun b hb => Nat.lt_of_lt_of_le (S.ql b hb) GV.size⟩
    · rw [← hV]; exact KA.set_ k _
    · rw [Array.toList_setIfInBounds, List.take_set, htk]
      exact flat_set G k (some ⟨w.heap.size, 0, none⟩, 1, 1, [x])
    · rcases List.mem_or_eq_of_mem_set hz with hz | rfl
      · exact (S.each z hz).keep GV (.inl rfl)
      · refine ⟨rfl, by simp, fun _ => ⟨⟨w.heap.size, 0, none⟩, rfl, ?_, by simp; omega, ?_, fun j u hj => ?_⟩⟩
        · rw [← hV]; simp
        · intro e
          have := S.ql _ e.symm
          simp at this
        · have e0 : j = 0 ∧ u = .int .i64 x := by
            cases j with
            | zero => exact ⟨rfl, by simpa [vs] using hj.symm⟩
            | succ j => simp [vs] at hj
          rw [e0.1, e0.2, ← hV, Addr.add_lit]
          have K2 := (KN.far (p := ⟨g, k, none⟩) (by simp; omega) (.slice (some ⟨w.heap.size, 0, none⟩) 1 1)).cell 0
          simpa using K2
  have HF := Lib.hid (fits_any (some ⟨g, 0, none⟩) n c _ V SV.gw (by rw [gsI_set]; exact hR))
  rw [gsI_set] at HF
  have e0 : V.cell? ⟨lb, 0, none⟩ = some (.slice (some ⟨g, 0, none⟩) n c) := SV.box.cell 0
  have HS := Lib.hid SV
  have HG := Lib.hid GV
  have i0 : (0 : Int) ≤ (k : Int) := by omega
  have i1 : (k : Int) < (n : Int) := by omega
  clear S KR htk hP hR hy hcur KA KN SV GV
  go_enter Tryd.func33, Tryd.ntmps33
  go_wp2_with fail
  refine HF.out.mono ?_
  rintro e w2 ⟨rfl, h9⟩
  have HE := Lib.hid (And.intro (HG.out.trans (⟨h9.os, h9.tape, h9.output, h9.size, fun j hj _ => h9.block j hj⟩ : V.grownBy w2 (some g))) (HS.out.keep (none_of_below h9)))
  clear h9
  go_wp2_with fail
  go_ret
  exact ⟨rfl, HE.out.1, _, HE.out.2⟩

end Go.Proofs.YtkbgpmgnkegipaaDoor
