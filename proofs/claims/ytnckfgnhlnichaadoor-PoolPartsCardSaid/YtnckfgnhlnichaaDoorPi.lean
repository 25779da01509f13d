/-
  The library's Delete of one element of a row of a call's own; the landed pool: Join's closure. No statement is proved here.
-/
import Derived.Test.YtnckfgnhlnichaaDoorPh
import Derived.Deep.RegionLaw
namespace Go.Proofs.YtnckfgnhlnichaaDoor
open Go.RowKit

/-- a row with some of its elements written over, from o on -/
def setL (l : List Nat) (o : Nat) : List Nat → List Nat
  | [] => l
  | v :: r => setL (l.set o v) (o + 1) r
theorem setL_len (l : List Nat) (o : Nat) (vs : List Nat) : (setL l o vs).length = l.length := by
  induction vs generalizing l o with
  | nil => rfl
  | cons v r ih => unfold setL; rw [ih, List.length_set]
theorem setL_take (l : List Nat) (o : Nat) (vs : List Nat) (h : o + vs.length ≤ l.length) : (setL l o vs).take (o + vs.length) = l.take o ++ vs := by
  induction vs generalizing l o with
  | nil => simp [setL]
  | cons v r ih =>
    rw [List.length_cons] at h
    have h2 := ih (l.set o v) (o + 1) (by rw [List.length_set]; omega)
    unfold setL
    rw [List.length_cons, show o + (r.length + 1) = o + 1 + r.length by omega, h2]
    have hx : l[o]? = some (l[o]'(by omega)) := List.getElem?_eq_getElem (by omega)
    have h3 : (l.set o v).take (o + 1) = l.take o ++ [v] := by
      rw [List.take_add_one, List.getElem?_set_self (by omega), List.take_set_of_le (by omega)]
      rfl
    rw [h3, List.append_assoc]
    rfl
theorem Row.cells {w : World} {b g n c : Nat} {l : List Nat} (vs : List Nat) : ∀ o, Row w b ⟨g, 0, none⟩ n c l → Row (w.setCells g o (us vs)) b ⟨g, 0, none⟩ n c (setL l o vs) := by
  induction vs generalizing w l with
  | nil => intro o h; exact h
  | cons v r ih =>
    intro o h
    have h1 := h.put o v
    rw [add_zero_block] at h1
    exact ih (o + 1) h1
theorem below_cells {b g : Nat} {a : World} (hg : b ≤ g) (vs : List Value) : ∀ (o : Nat) (w : World), Below b a w → Below b a (w.setCells g o vs) := by
  induction vs with
  | nil => intro o w h; exact h
  | cons v r ih => intro o w h; exact ih (o + 1) _ (h.setCell (p := ⟨g, o, none⟩) hg v)
theorem own_take {w : World} {b n c i : Nat} {e : TypeId} {p : Addr} {xs : List Value} (h : w.ownsRow b e 1 (.slice (some p) n c) n xs) (hi : i ≤ n) : w.ownsRow b e 1 (.slice (some p) i c) i (xs.take i) := by
  have hl := h.1
  refine ⟨by rw [List.length_take]; omega, ?_⟩
  rcases h.2 with ⟨h2, _⟩ | ⟨g, cap, cur, h2, hb, hg, hn, hm, hc, ht⟩
  · cases h2
  · injection h2 with e1 e2 e3
    subst e3
    refine .inr ⟨g, c, cur, by rw [e1], hb, hg, by omega, hm, hc, ?_⟩
    rw [← ht, List.take_take]
    congr 1
    omega
theorem zero_cpus (w : World) : (zeroValue 32).run Tryd.prog w = .ok (.int .u32 0) w := by kernel_rfl

set_option maxRecDepth 100000 in
set_option maxHeartbeats 4000000 in
theorem ldelete_any (b : Nat) (p : Addr) (n c i : Nat) (l : List Nat) (w : World) (hRow : Row w b p n c l) (hi : i < n) (hn : n ≤ 1000) (hnc : n ≤ c) :
    Calls Tryd.prog 31 #[.slice (some p) n c, .int .i64 (i : Int), .int .i64 ((i : Int) + 1)] w fun e w' =>
      e = .returned (.slice (some p) (n - 1) c) ∧ w'.ownsRow b 32 1 (.slice (some p) (n - 1) c) (n - 1) (us (l.eraseIdx i)) ∧ Below b w w' := by
  obtain ⟨i0, hi0, hz0, hz1, hz2⟩ := info_parts8 cpus_info
  have hl := hRow.len
  obtain ⟨g, rfl, hg⟩ := hRow.at_
  obtain ⟨m, hm⟩ : ∃ m, n - (i + 1) = m := ⟨_, rfl⟩
  obtain ⟨N1, hN1⟩ : ∃ N1, n - 1 = N1 := ⟨_, rfl⟩
  have him : i + m = N1 := by omega
  have hnN : n - N1 = 1 := by omega
  obtain ⟨news, hnews⟩ : ∃ news, l.drop (i + 1) = news := ⟨_, rfl⟩
  have hlen : news.length = m := by rw [← hnews, List.length_drop]; omega
  obtain ⟨AD, hAD, hsrc⟩ : ∃ AD : Addr, (if c = i + 1 then some (⟨g, 0, none⟩ : Addr) else some ⟨g, i + 1, none⟩) = some AD ∧ Hid (∀ t u, (us news)[t]? = some u → w.drew.cell? (AD.add t) = some u) := by
    by_cases h : c = i + 1
    · refine ⟨⟨g, 0, none⟩, if_pos h, fun t u hu => ?_⟩
      have h0 : news = [] := List.eq_nil_of_length_eq_zero (by omega)
      rw [h0] at hu
      simp [us] at hu
    · refine ⟨⟨g, i + 1, none⟩, if_neg h, fun t u hu => ?_⟩
      obtain ⟨x, hx, rfl⟩ := us_at hu
      rw [← hnews, List.getElem?_drop] at hx
      have := hRow.cell hx
      rw [add_zero_block] at this
      have e : (⟨g, i + 1, none⟩ : Addr).add t = ⟨g, i + 1 + t, none⟩ := by unfold Addr.add; by_cases h0 : t = 0 <;> simp [h0]
      rw [e]
      exact this
  have s1 : Hid ((us news).length = m * 1) := Lib.hid (by rw [length_us, hlen]; omega)
  have s3 : Hid (∀ t, t < (us news).length → (w.drew.cell? ⟨g, 0 + i * 1 + t, none⟩).isSome = true ∧ w.drew.frozen? ⟨g, 0 + i * 1 + t, none⟩ = false) := Lib.hid (by
    intro t ht
    rw [length_us, hlen] at ht
    have hx := at_getD (l := l) (k := i + t) (by omega)
    have h1 := hRow.drew.cell hx
    have h2 := hRow.drew.frozen (i + t)
    rw [add_zero_block] at h1 h2
    rw [show 0 + i * 1 + t = i + t by omega]
    exact ⟨by rw [h1]; rfl, h2⟩)
  have R1 := Row.cells news (0 + i * 1) hRow.drew
  have B1 := below_cells hg (us news) (0 + i * 1) _ (Below.refl b w).drew
  obtain ⟨W1, hW1⟩ : ∃ W1, w.drew.setCells g (0 + i * 1) (us news) = W1 := ⟨_, rfl⟩
  rw [hW1] at R1 B1
  have R2 := Row.cells [0] N1 R1
  have B2 := below_cells hg (us [0]) N1 _ B1
  have hcl : ∀ ty, (Builtin.clear_ #[24] ty #[.slice (some ⟨g, N1, none⟩) 1 (c - N1)]).run Tryd.prog W1 = .ok (.tuple #[]) (W1.setCells g N1 (us [0])) := fun ty => by
    have hx := at_getD (l := setL l (0 + i * 1) news) (k := N1) (by rw [setL_len]; omega)
    have h1 := R1.cell hx
    have h2 := R1.frozen N1
    rw [add_zero_block] at h1 h2
    have := Lib.run_clear_slice (P := Tryd.prog) W1 24 32 ty (.int .u32 0) Tryd.underlying24 zero_cpus rfl rfl g N1 1 (c - N1) (by omega)
      (fun j hj => by obtain rfl : j = 0 := by omega
                      rw [Nat.add_zero, h1]; rfl)
      (fun j hj => by obtain rfl : j = 0 := by omega
                      rw [Nat.add_zero]; exact h2)
    exact this
  obtain ⟨W2, hW2⟩ : ∃ W2, W1.setCells g N1 (us [0]) = W2 := ⟨_, rfl⟩
  rw [hW2] at R2 B2 hcl
  have HT : Hid (W2.ownsRow b 32 1 (.slice (some ⟨g, 0, none⟩) N1 c) N1 (us (l.eraseIdx i)) ∧ Below b w W2) := Lib.hid ⟨by
    have h := own_take R2.own (show N1 ≤ n by omega)
    have e : (us (setL (setL l (0 + i * 1) news) N1 [0])).take N1 = us (l.eraseIdx i) := by
      rw [show (us (setL (setL l (0 + i * 1) news) N1 [0])).take N1 = us ((setL (setL l (0 + i * 1) news) N1 [0]).take N1) by unfold us; rw [List.map_take]]
      congr 1
      show ((setL l (0 + i * 1) news).set N1 0).take N1 = _
      rw [List.take_set_of_le (by omega)]
      have := setL_take l i news (by omega)
      rw [show 0 + i * 1 = i by omega, show N1 = i + news.length by omega, this, ← hnews, List.eraseIdx_eq_take_drop_succ]
    rwa [e] at h, B2⟩
  have HWe := Lib.hid hW1
  have HN1 := Lib.hid hN1
  have j0 : (0 : Int) ≤ (i : Int) := by omega
  have j1 : (i : Int) ≤ (n : Int) := by omega
  have j2 : (i : Int) + 1 ≤ (n : Int) := by omega
  have j3 : (n : Int) ≤ (c : Int) := by omega
  have j4 : (i : Int) ≤ (c : Int) := by omega
  have j5 : (i : Int) + 1 ≤ (c : Int) := by omega
  have j6 : (i : Int) ≤ (i : Int) + 1 := by omega
  have j9 : (0 : Int) ≤ (i : Int) + 1 := by omega
  have j10 : ¬ ((i : Int) + 1 < 0) := by omega
  have j7 : ((i : Int) == (i : Int) + 1) = false := by simp; omega
  have j8 : (N1 : Int) ≤ (n : Int) := by omega
  have hcN : ¬ c = N1 := by omega
  have HRoom : Hid (i + m ≤ c) := Lib.hid (by omega)
  clear R1 B1 R2 B2 hRow hW1 hW2 hl hlen hnews hN1 hg
  go_enter Tryd.func31, Tryd.ntmps31
  go_upto_region 5 with fail
  refine wp_region_held_drew (S := fun _ => True) (by kernel_rfl) trivial (fun hS => ?_)
  refine wpAnyH_take (i := 0) (v := .slice (some ⟨g, 0, none⟩) n c) rfl (by kernel_rfl) (by kernel_rfl) (by kernel_rfl) (fun _ _ _ h => h) (Or.inl ⟨by kernel_rfl, fun u hSw => (by go_simp)⟩) hS ?_
  try simp only [Act.put]
  refine wpAnyH_take (i := 1) (v := .int .i64 (i : Int)) rfl (by kernel_rfl) (by kernel_rfl) (by kernel_rfl) (fun _ _ _ h => h) (Or.inl ⟨by kernel_rfl, fun u hSw => (by go_simp)⟩) hS ?_
  try simp only [Act.put]
  refine wpAnyH_take (i := 2) (v := .slice (some ⟨g, 0, none⟩) i c) rfl (by kernel_rfl) (by kernel_rfl) (by kernel_rfl) (fun _ _ _ h => h) (Or.inl ⟨by kernel_rfl, fun u hSw => (by go_simp)⟩) hS ?_
  try simp only [Act.put]
  refine wpAnyH_take (i := 3) (v := .slice (some ⟨g, 0, none⟩) n c) rfl (by kernel_rfl) (by kernel_rfl) (by kernel_rfl) (fun _ _ _ h => h) (Or.inl ⟨by kernel_rfl, fun u hSw => (by go_simp)⟩) hS ?_
  try simp only [Act.put]
  refine wpAnyH_take (i := 4) (v := .int .i64 ((i : Int) + 1)) rfl (by kernel_rfl) (by kernel_rfl) (by kernel_rfl) (fun _ _ _ h => h) (Or.inl ⟨by kernel_rfl, fun u hSw => (by go_simp)⟩) hS ?_
  try simp only [Act.put]
  refine wpAnyH_take (i := 5) (v := .slice (some AD) m (c - (i + 1))) rfl (by kernel_rfl) (by kernel_rfl) (by kernel_rfl) (fun _ _ _ h => h) (Or.inl ⟨by kernel_rfl, fun u hSw => (by go_simp)⟩) hS ?_
  try simp only [Act.put]
  refine wpAnyH_ready (rs := [6]) (by kernel_rfl) (by simp) ?_
  refine AllReadyH.cons rfl (fun K hK => ?_) AllReadyH.nil
  refine step_append_room rfl (.tmp 22) (.tmp 25) 24 rfl 32 i0 1 Tryd.underlying24 hi0 hz1 g 0 i c rfl AD m (c - (i + 1)) (us news) rfl s1.out hsrc.out (us_ones _) HRoom.out s3.out ?_
  rw [HWe.out, him]
  refine hK.out _ _ trivial (fun hS => ?_)
  clear hK K
  try simp only [Act.put]
  refine wpAnyH_take (i := 7) (v := .slice (some ⟨g, 0, none⟩) N1 c) rfl (by kernel_rfl) (by kernel_rfl) (by kernel_rfl) (fun _ _ _ h => h) (Or.inl ⟨by kernel_rfl, fun u hSw => (by go_simp)⟩) hS ?_
  refine wpAnyH_done (by kernel_rfl) ?_ _
  clear hS
  go_wp2
  go_ret
  exact ⟨by rw [HN1.out]; rfl, by rw [HN1.out]; exact HT.out.1, HT.out.2⟩

end Go.Proofs.YtnckfgnhlnichaaDoor
