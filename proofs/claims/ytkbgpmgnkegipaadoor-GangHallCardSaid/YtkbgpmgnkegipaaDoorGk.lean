/-
  The library's Insert and Delete of one element of a row of a call's own, and Clone, at gangs. No statement is proved here.
-/
import Derived.Test.YtkbgpmgnkegipaaDoorGi
import Derived.Lib.SliceRun
namespace Go.Proofs.YtkbgpmgnkegipaaDoor
open Go.RowKit

theorem ins_cells {C X V : List Value} {a s N : Nat} (hX : X.length = N) (hC : C.take N = X) (hV : V.length = s) (ha : a ≤ N) (hr : N + s ≤ C.length) : (setLV (setLV C (a + s) (X.drop a)) a V).take (N + s) = X.take a ++ V ++ X.drop a := by
  have hd : (X.drop a).length = N - a := by rw [List.length_drop, hX]
  have hta : C.take a = X.take a := by rw [← hC, List.take_take, Nat.min_eq_left ha]
  rw [setLV_eq V _ a (by rw [setLV_len, hV]; omega), setLV_eq (X.drop a) C (a + s) (by rw [hd]; omega), hV, List.append_assoc (C.take (a + s))]
  have hl : (C.take (a + s)).length = a + s := by rw [List.length_take]; omega
  have t1 : ∀ R : List Value, (C.take (a + s) ++ R).take a = X.take a := fun R => by rw [List.take_append_of_le_length (by rw [hl]; omega), List.take_take, Nat.min_eq_left (by omega), hta]
  have t2 : ∀ R : List Value, (C.take (a + s) ++ R).drop (a + s) = R := fun R => List.drop_left' hl
  rw [t1, t2, ← List.append_assoc]
  exact List.take_left' (by simp [hX, hV]; omega)
theorem ins_cells2 {C X V : List Value} {a s N : Nat} (hX : X.length = N) (hC : C.take a = X.take a) (hV : V.length = s) (ha : a ≤ N) (hr : N + s ≤ C.length) : (setLV (setLV C a V) (a + s) (X.drop a)).take (N + s) = X.take a ++ V ++ X.drop a := by
  have hd : (X.drop a).length = N - a := by rw [List.length_drop, hX]
  rw [setLV_eq (X.drop a) _ (a + s) (by rw [setLV_len, hd]; omega), setLV_eq V C a (by rw [hV]; omega), hV, hC]
  have hl : (X.take a ++ V).length = a + s := by rw [List.length_append, List.length_take, hV, hX]; omega
  have t1 : ∀ R : List Value, (X.take a ++ V ++ R).take (a + s) = X.take a ++ V := fun R => List.take_left' hl
  rw [t1]
  exact List.take_left' (by simp [hX, hV]; omega)
theorem del_cells {C X Z : List Value} {a s N : Nat} (hX : X.length = N) (hC : C.take N = X) (hZ : Z.length = s) (ha : a + s ≤ N) (hr : N ≤ C.length) : (setLV (setLV C a (X.drop (a + s))) (N - s) Z).take (N - s) = X.take a ++ X.drop (a + s) := by
  have hd : (X.drop (a + s)).length = N - (a + s) := by rw [List.length_drop, hX]
  have hta : C.take a = X.take a := by rw [← hC, List.take_take, Nat.min_eq_left (by omega)]
  rw [setLV_eq Z _ (N - s) (by rw [setLV_len, hZ]; omega), List.append_assoc, List.take_append_of_le_length (by rw [List.length_take, setLV_len]; omega), List.take_take, Nat.min_self, setLV_eq (X.drop (a + s)) C a (by rw [hd]; omega), hta]
  exact List.take_left' (by simp [hX]; omega)
theorem cell_past {w : World} {g : Nat} {t : TypeId} {cs : Array Value} (K : Blk w g t cs) {j : Nat} (h : j < cs.size) : (w.cell? ⟨g, j, none⟩).isSome = true := by
  rw [K.cell j, Array.getElem?_eq_getElem h]; rfl
theorem cell_list {w : World} {g : Nat} {t : TypeId} {cs : Array Value} (K : Blk w g t cs) {N j : Nat} {X : List Value} {v : Value} (hX : cs.toList.take N = X) (h : X[j]? = some v) : w.cell? ⟨g, j, none⟩ = some v := by
  rw [K.cell j]
  rw [← hX, List.getElem?_take] at h
  split at h
  · simpa using h
  · cases h

theorem gang_info : (Tryd.prog.info? 54).map (fun i => (i.zero, i.size, i.bytes)) = some (some (.agg #[.int .i64 0, .slice none 0 0]), 2, 32) := by kernel_rfl
abbrev agN (x : Gn) : Array Value := #[.int .i64 x.1, .slice x.2.1 x.2.2.1 x.2.2.2.1]
theorem gnv_ones (l : List Gn) : ∀ u ∈ flat gnv l, u.oneCell' = true := flat_all gnv (fun a u hu => by
  simp only [gnv, List.mem_cons, List.not_mem_nil, or_false] at hu
  rcases hu with rfl | rfl <;> rfl) l
theorem gns_len {w : World} {B n : Nat} {A : Option Addr} {l : List Gn} (h : Reads w B 2 A n (flat gnv l)) : l.length = n := by
  have h1 := h.1
  rw [length_flat gnv length_gnv] at h1
  omega

set_option maxRecDepth 100000 in
set_option maxHeartbeats 8000000 in
/-- at the end -/
theorem ginsend_any (b n c : Nat) (A : Option Addr) (l : List Gn) (vb : Nat) (x : Gn) (w : World) (hO : w.ownsRow b 54 2 (.slice A n c) n (flat gnv l)) (hb : b ≤ w.heap.size) (hV : Blk w vb 54 (agN x)) (hn : n ≤ 1000) :
    Calls Tryd.prog 28 #[.slice A n c, .int .i64 (n : Int), .slice (some ⟨vb, 0, none⟩) 1 1] w (Turned w (.slice A n c) b 54 (n + 1) (flat gnv (l ++ [x]))) := by
  obtain ⟨i0, hi0, hz0, hz1, hz2⟩ := info_parts9 gang_info
  have HO := Lib.hid hO
  have HVr : Hid (Reads w w.heap.size 2 (some ⟨vb, 0, none⟩) 1 (flat gnv [x])) := Lib.hid ⟨by simp [flat, length_gnv], fun _ => ⟨_, rfl, hV.lt, fun j u hj => by
    rw [Addr.add_lit, Nat.zero_add, hV.cell j]
    simpa [flat, gnv] using hj⟩⟩
  have HB := Lib.hid hb
  have hnc : n ≤ c := by
    rcases hO.2 with ⟨h2, h3⟩ | ⟨g, cap, cur, h2, _, _, h3, _⟩
    · omega
    · injection h2 with _ _ e; omega
  have j0 : (0 : Int) ≤ (n : Int) := by omega
  have j1 : (n : Int) ≤ (c : Int) := by omega
  obtain ⟨Aw, hAw⟩ : ∃ Aw, (if c = n then A else Option.map (fun x => x.add (n * 2)) A) = Aw := ⟨_, rfl⟩
  have e1 : ((n : Int) == (n : Int)) = true := by simp
  clear hO hV hb hnc
  go_enter Tryd.func28, Tryd.ntmps28
  go_wp2_with (
    at_builtin
    refine wpList_append_any _ rfl (.tmp 23) (.tmp 24) 34 rfl b 54 i0 (.agg #[.int .i64 0, .slice none 0 0]) 2 32 Tryd.underlying34 hi0 hz0 hz1 hz2 rfl (by decide) (.slice A n c) n (flat gnv l) rfl HO.out w.heap.size (some ⟨vb, 0, none⟩) 1 1 (flat gnv [x]) rfl HVr.out (gnv_ones _) (by simp only [maxLen]; omega) (by omega) HB.out ?_
    intro v9 w9 own9 grow9 hw9
    rw [← flat_append] at own9
    obtain ⟨A9, c9, rfl, _, _⟩ := own_reads own9
    have HT := Lib.hid (And.intro own9 (And.intro grow9 hw9))
    clear own9 grow9 hw9)
  all_goals (go_ret; exact ⟨⟨A9, c9, rfl, HT.out.1, fun k hk => by
    rcases HT.out.2.2 with e | e
    · rw [e] at hk; exact .inl hk
    · rw [e] at hk; injection hk with hk; exact .inr (by omega)⟩, HT.out.2.1⟩)

set_option maxRecDepth 100000 in
set_option maxHeartbeats 8000000 in
/-- in place -/
theorem ginsin_any (b n c i g : Nat) (cur : Array Value) (l : List Gn) (vb : Nat) (x : Gn) (w : World) (K : Blk w g 54 cur) (hbg : b ≤ g) (hcm : c ≤ maxLen) (hsz : cur.size = c * 2) (hX : cur.toList.take (n * 2) = flat gnv l) (hV : Blk w vb 54 (agN x)) (hne : vb ≠ g) (hl : l.length = n) (hi : i < n) (hr : n + 1 ≤ c) (hn : n ≤ 1000) :
    Calls Tryd.prog 28 #[.slice (some ⟨g, 0, none⟩) n c, .int .i64 (i : Int), .slice (some ⟨vb, 0, none⟩) 1 1] w (Turned w (.slice (some ⟨g, 0, none⟩) n c) b 54 (n + 1) (flat gnv (l.take i ++ x :: l.drop i))) := by
  have hsize : (Tryd.prog.info? 54).map (·.size) = some 2 := by kernel_rfl
  have hX4 : (flat gnv l).length = n * 2 := by rw [length_flat gnv length_gnv, hl]
  have hov : ∀ lb cb, (callFunc 49 #[.slice (some ⟨vb, 0, none⟩) 1 1, .slice (some ⟨g, (i + 1) * 2, none⟩) lb cb]).run Tryd.prog w = .ok (.value (.bool false)) w := fun lb cb => by
    rw [run_callFunc_extern Tryd.func49 (by kernel_rfl) (by kernel_rfl) (by kernel_rfl) (e := Extern.SlicesOverlaps.overlaps #[34, 34] #[4]) (by kernel_rfl),
      Lib.run_overlaps_apart w 34 4 54 Tryd.underlying34 2 (fun w => by kernel_rfl) ⟨vb, 0, none⟩ ⟨g, (i + 1) * 2, none⟩ 1 1 lb cb hne 54 54 2 cur.size (by rw [hV.shape]; rfl) K.shape (by omega) (hV.frozen 0) (hV.frozen 2)]
    rfl
  have hdl : ((flat gnv l).drop (i * 2)).length = (n - i) * 2 := by rw [List.length_drop, hX4]; omega
  have hcp1 : ∀ ty dc sc, (Builtin.copy_ #[34, 34] ty #[.slice (some ⟨g, (i + 1) * 2, none⟩) (n + 1 - (i + 1)) dc, .slice (some ⟨g, i * 2, none⟩) (n + 1 - i) sc]).run Tryd.prog w.drew = .ok (goInt ((n - i : Nat) : Int)) (w.drew.setCells g ((i + 1) * 2) ((flat gnv l).drop (i * 2))) := fun ty dc sc =>
    run_copy_many w.drew _ _ ty 54 g ((i + 1) * 2) (n + 1 - (i + 1)) dc 2 (n - i) ⟨g, i * 2, none⟩ (n + 1 - i) sc ((flat gnv l).drop (i * 2)) Tryd.underlying34 hsize (by simp only [Nat.min_def]; split <;> omega) hdl
      (fun j v hj => by
        rw [Addr.add_lit]
        rw [List.getElem?_drop] at hj
        exact cell_list K hX hj)
      (fun j hj => cell_past K (by rw [hdl] at hj; omega)) (fun j hj => K.frozen _) (fun v hv => gnv_ones l v (List.mem_of_mem_drop hv))
  obtain ⟨W1, hW1⟩ : ∃ W1, w.drew.setCells g ((i + 1) * 2) ((flat gnv l).drop (i * 2)) = W1 := ⟨_, rfl⟩
  have K1 : Blk W1 g 54 (setLV cur.toList ((i + 1) * 2) ((flat gnv l).drop (i * 2))).toArray := by rw [← hW1]; exact Blk.cells _ w.drew cur _ K
  have V1 : Blk W1 vb 54 (agN x) := by
    rw [← hW1]
    exact ((grown_cells g ((flat gnv l).drop (i * 2)) w.drew ((i + 1) * 2)).block vb hV.lt (by simpa using hne)).trans hV
  have G1 : w.grownBy W1 (some g) := by rw [← hW1]; exact grown_drew (grown_cells g ((flat gnv l).drop (i * 2)) w.drew ((i + 1) * 2))
  rw [hW1] at hcp1
  have hs1 : (setLV cur.toList ((i + 1) * 2) ((flat gnv l).drop (i * 2))).toArray.size = c * 2 := by rw [List.size_toArray, setLV_len, Array.length_toList, hsz]
  have hcp2 : ∀ ty dc, (Builtin.copy_ #[34, 34] ty #[.slice (some ⟨g, i * 2, none⟩) (n + 1 - i) dc, .slice (some ⟨vb, 0, none⟩) 1 1]).run Tryd.prog W1 = .ok (goInt ((1 : Nat) : Int)) (W1.setCells g (i * 2) (gnv x)) := fun ty dc =>
    run_copy_many W1 _ _ ty 54 g (i * 2) (n + 1 - i) dc 2 1 ⟨vb, 0, none⟩ 1 1 (gnv x) Tryd.underlying34 hsize (by simp only [Nat.min_def]; split <;> omega) (length_gnv x)
      (fun j v hj => by
        rw [Addr.add_lit, Nat.zero_add, V1.cell j]
        simpa [gnv] using hj)
      (fun j hj => cell_past K1 (by rw [hs1]; rw [length_gnv] at hj; omega)) (fun j hj => K1.frozen _) (fun v hv => by have := gnv_ones [x] v (by simpa [flat] using hv); exact this)
  have HF : Hid ((W1.setCells g (i * 2) (gnv x)).ownsRow b 54 2 (.slice (some ⟨g, 0, none⟩) (n + 1) c) (n + 1) (flat gnv (l.take i ++ x :: l.drop i)) ∧ w.grownBy (W1.setCells g (i * 2) (gnv x)) (some g)) := Lib.hid ⟨by
    refine own_blk (Blk.cells (gnv x) W1 _ (i * 2) K1) hbg hcm (by rw [List.size_toArray, setLV_len, Array.length_toList, hs1]) hr ?_
    rw [List.toList_toArray, List.toList_toArray, flat_append, flat_cons, flat_take_ length_gnv, flat_drop_ length_gnv, ← List.append_assoc, show (n + 1) * 2 = n * 2 + 2 by omega, show (i + 1) * 2 = i * 2 + 2 by omega]
    exact ins_cells hX4 hX (length_gnv x) (by omega) (by rw [Array.length_toList, hsz]; omega), grown_trans G1 (grown_cells g (gnv x) W1 (i * 2))⟩
  have c63 : c ≤ 9223372036854775807 := by unfold maxLen at hcm; omega
  have HWr : Hid (IntKind.i64.wrap ((i : Int) + 1) = (i : Int) + 1) := Lib.hid (by rw [IntKind.wrap_i64]; omega)
  have b0 : ((i : Int) == (n : Int)) = false := by simp; omega
  have b1 : decide ((c : Int) < (n : Int) + 1) = false := decide_eq_false (by omega)
  have b2 : ¬ (c = i + 1) := by omega
  have b3 : (i : Int) ≤ (n : Int) + 1 := by omega
  have b4 : ¬ (c = i) := by omega
  have b5 : (n : Int) + 1 ≤ (c : Int) := by omega
  have b6 : (i : Int) + 1 ≤ (n : Int) + 1 := by omega
  have b7 : (i : Int) ≤ (n : Int) := by omega
  have b8 : (0 : Int) ≤ (i : Int) := by omega
  have b9 : (0 : Int) ≤ (i : Int) + 1 := by omega
  have ba : (n : Int) ≤ (c : Int) := by omega
  clear K1 V1 G1 hs1 hW1 hdl hX4 hV K hX hsz hsize hcm
  go_enter Tryd.func28, Tryd.ntmps28
  go_wp2_with (simp only [hov])
  refine wp_region_held_drew (S := fun _ => True) (by kernel_rfl) trivial (fun hS => ?_)
  refine wpAnyH_take (i := 0) (v := .slice (some ⟨g, 0, none⟩) (n + 1) c) rfl (by kernel_rfl) (by kernel_rfl) (by kernel_rfl) (fun _ _ _ h => h) (Or.inl ⟨by kernel_rfl, fun u hSw => (by go_simp)⟩) hS ?_
  change wpAnyH _ _ _ _ _ _ _ (Act.put _ (some 69) _) _
  simp only [Act.put]
  refine wpAnyH_take (i := 1) (v := .int .i64 (i : Int)) rfl (by kernel_rfl) (by kernel_rfl) (by kernel_rfl) (fun _ _ _ h => h) (Or.inl ⟨by kernel_rfl, fun u hSw => (by go_simp)⟩) hS ?_
  change wpAnyH _ _ _ _ _ _ _ (Act.put _ (some 70) _) _
  simp only [Act.put]
  refine wpAnyH_take (i := 2) (v := .int .i64 1) rfl (by kernel_rfl) (by kernel_rfl) (by kernel_rfl) (fun _ _ _ h => h) (Or.inl ⟨by kernel_rfl, fun u hSw => (by go_simp)⟩) hS ?_
  change wpAnyH _ _ _ _ _ _ _ (Act.put _ (some 71) _) _
  simp only [Act.put]
  refine wpAnyH_take (i := 3) (v := .int .i64 ((i : Int) + 1)) rfl (by kernel_rfl) (by kernel_rfl) (by kernel_rfl) (fun _ _ _ h => h) (Or.inl ⟨by kernel_rfl, fun u hSw => (by go_simp; exact HWr.out)⟩) hS ?_
  change wpAnyH _ _ _ _ _ _ _ (Act.put _ (some 72) _) _
  simp only [Act.put]
  refine wpAnyH_take (i := 4) (v := .slice (some ⟨g, (i + 1) * 2, none⟩) (n + 1 - (i + 1)) (c - (i + 1))) rfl (by kernel_rfl) (by kernel_rfl) (by kernel_rfl) (fun _ _ _ h => h) (Or.inl ⟨by kernel_rfl, fun u hSw => (by go_simp)⟩) hS ?_
  change wpAnyH _ _ _ _ _ _ _ (Act.put _ (some 73) _) _
  simp only [Act.put]
  refine wpAnyH_take (i := 5) (v := .slice (some ⟨g, 0, none⟩) (n + 1) c) rfl (by kernel_rfl) (by kernel_rfl) (by kernel_rfl) (fun _ _ _ h => h) (Or.inl ⟨by kernel_rfl, fun u hSw => (by go_simp)⟩) hS ?_
  change wpAnyH _ _ _ _ _ _ _ (Act.put _ (some 74) _) _
  simp only [Act.put]
  refine wpAnyH_take (i := 6) (v := .int .i64 (i : Int)) rfl (by kernel_rfl) (by kernel_rfl) (by kernel_rfl) (fun _ _ _ h => h) (Or.inl ⟨by kernel_rfl, fun u hSw => (by go_simp)⟩) hS ?_
  change wpAnyH _ _ _ _ _ _ _ (Act.put _ (some 75) _) _
  simp only [Act.put]
  refine wpAnyH_take (i := 7) (v := .slice (some ⟨g, i * 2, none⟩) (n + 1 - i) (c - i)) rfl (by kernel_rfl) (by kernel_rfl) (by kernel_rfl) (fun _ _ _ h => h) (Or.inl ⟨by kernel_rfl, fun u hSw => (by go_simp)⟩) hS ?_
  change wpAnyH _ _ _ _ _ _ _ (Act.put _ (some 76) _) _
  simp only [Act.put]
  refine wpAnyH_ready (rs := [8]) (by kernel_rfl) (by simp) ?_
  refine AllReadyH.cons rfl (fun K hK => ?_) AllReadyH.nil
  refine step_copy_run rfl (.tmp 73) (.tmp 76) 34 34 rfl (.slice (some ⟨g, (i + 1) * 2, none⟩) (n + 1 - (i + 1)) (c - (i + 1))) (.slice (some ⟨g, i * 2, none⟩) (n + 1 - i) (c - i)) (by simp [Act.eval]) (by simp [Act.eval]) (hcp1 _ _ _) ?_
  refine hK.out _ _ trivial (fun hS => ?_)
  clear hK K
  refine wpAnyH_done (by kernel_rfl) ?_ _
  clear hS
  go_simp
  go_wp2_with (refine wpList_copy_run _ rfl (.tmp 80) (.tmp 81) 34 34 rfl (.slice (some ⟨g, i * 2, none⟩) (n + 1 - i) (c - i)) (.slice (some ⟨vb, 0, none⟩) 1 1) rfl rfl (hcp2 _ _) ?_)
  go_ret
  exact ⟨⟨some ⟨g, 0, none⟩, c, rfl, HF.out.1, fun k hk => .inl hk⟩, HF.out.2⟩

set_option maxRecDepth 100000 in
set_option maxHeartbeats 8000000 in
/-- into a new row -/
theorem ginsnew_any (b n c i g : Nat) (cur : Array Value) (l : List Gn) (vb : Nat) (x : Gn) (w : World) (K : Blk w g 54 cur) (hb : b ≤ w.heap.size) (hX : cur.toList.take (n * 2) = flat gnv l) (hV : Blk w vb 54 (agN x)) (hl : l.length = n) (hi : i < n) (hc1 : n ≤ c) (hr : c < n + 1) (hn : n ≤ 1000) :
    Calls Tryd.prog 28 #[.slice (some ⟨g, 0, none⟩) n c, .int .i64 (i : Int), .slice (some ⟨vb, 0, none⟩) 1 1] w (Turned w (.slice (some ⟨g, 0, none⟩) n c) b 54 (n + 1) (flat gnv (l.take i ++ x :: l.drop i))) := by
  obtain ⟨i0, hi0, hz0, hz1, hz2⟩ := info_parts9 gang_info
  have hsize : (Tryd.prog.info? 54).map (·.size) = some 2 := by kernel_rfl
  have hX4 : (flat gnv l).length = n * 2 := by rw [length_flat gnv length_gnv, hl]
  have htl : (flat gnv (l.take i)).length = i * 2 := by rw [length_flat gnv length_gnv, List.length_take, hl, Nat.min_eq_left (by omega)]
  have hold : (Builtin.firstCells i0.size i (.slice (some ⟨g, 0, none⟩) i c)).run Tryd.prog w.drew = .ok (flat gnv (l.take i)).toArray w.drew := by
    rw [hz1]
    exact run_firstCells_some w.drew 2 i ⟨g, 0, none⟩ i c _ htl (fun j v hj => by
      rw [Addr.add_lit, Nat.zero_add]
      rw [flat_take_ length_gnv, List.getElem?_take] at hj
      split at hj
      · exact cell_list (w := w) K hX hj
      · cases hj)
  have hik : i + (n + 1 - i) = n + 1 := by omega
  obtain ⟨G, hG⟩ : ∃ G, grownCap w (n + 1) c 54 = G := ⟨_, rfl⟩
  obtain ⟨ROW, hROW⟩ : ∃ ROW : Array Value, (flat gnv (l.take i)).toArray ++ Builtin.zeroCells ((.agg #[.int .i64 0, .slice none 0 0]) : Value).cells (n + 1 - i) ++ Builtin.zeroCells ((.agg #[.int .i64 0, .slice none 0 0]) : Value).cells (G - (n + 1)) = ROW := ⟨_, rfl⟩
  have hrz : ∀ ty, (Builtin.append_ #[34, 3] ty #[.slice (some ⟨g, 0, none⟩) i c, .int .i64 ((n : Int) + 1 - (i : Int))]).run Tryd.prog w = .ok (.slice (some ⟨w.heap.size, 0, none⟩) (n + 1) G) (w.drew.alloc (.cells ROW 54)) := fun ty => by
    have h := Lib.run_append_grow_zeros w 34 3 ty 54 i0 (.agg #[.int .i64 0, .slice none 0 0]) .i64 .i64 Tryd.underlying34 Tryd.underlying3 hi0 hz0 (some ⟨g, 0, none⟩) i c _ hold (n + 1 - i) (by omega) (by omega) (by omega) (by omega) (by rw [hz2]; omega) (by rw [hz2, hik]; exact growslice_fits (by omega) (by omega))
    rw [hik, hG, hROW] at h
    rw [show (n : Int) + 1 - (i : Int) = ((n + 1 - i : Nat) : Int) by omega]
    exact h
  have hG1 : n + 1 ≤ G := by rw [← hG]; exact grownCap_ge w _ _ _
  have hG2 : G ≤ maxLen := by rw [← hG]; exact grownCap_le_maxLen w (n + 1) c 54 (by simp only [maxLen]; omega)
  have hRs : ROW.size = G * 2 := by
    rw [← hROW]
    simp [Builtin.zeroCells, Value.cells, htl]
    omega
  have hRt : ROW.toList.take (i * 2) = (flat gnv l).take (i * 2) := by
    rw [← hROW, ← flat_take_ length_gnv, Array.append_assoc, Array.toList_append, List.toList_toArray]
    exact List.take_left' htl
  obtain ⟨g1, hg1⟩ : ∃ g1, w.heap.size = g1 := ⟨_, rfl⟩
  obtain ⟨W1, hW1⟩ : ∃ W1, w.drew.alloc (.cells ROW 54) = W1 := ⟨_, rfl⟩
  have K1 : Blk W1 g1 54 ROW := by rw [← hW1, ← hg1]; exact Blk.new w.drew _ _
  have Kg : Blk W1 g 54 cur := by rw [← hW1]; exact Blk.alloc (w := w.drew) K _
  have V1 : Blk W1 vb 54 (agN x) := by rw [← hW1]; exact Blk.alloc (w := w.drew) hV _
  have G1 : w.grownBy W1 (some g) := by rw [← hW1]; exact grown_drew (World.grownBy_alloc w.drew _ _)
  have hlt : g < g1 := by rw [← hg1]; exact K.lt
  have hvlt : vb < g1 := by rw [← hg1]; exact hV.lt
  rw [hW1, hg1] at hrz
  have hcpA : ∀ ty dc, (Builtin.copy_ #[34, 34] ty #[.slice (some ⟨g1, i * 2, none⟩) (n + 1 - i) dc, .slice (some ⟨vb, 0, none⟩) 1 1]).run Tryd.prog W1 = .ok (goInt ((1 : Nat) : Int)) (W1.setCells g1 (i * 2) (gnv x)) := fun ty dc =>
    run_copy_many W1 _ _ ty 54 g1 (i * 2) (n + 1 - i) dc 2 1 ⟨vb, 0, none⟩ 1 1 (gnv x) Tryd.underlying34 hsize (by simp only [Nat.min_def]; split <;> omega) (length_gnv x)
      (fun j v hj => by
        rw [Addr.add_lit, Nat.zero_add, V1.cell j]
        simpa [gnv] using hj)
      (fun j hj => cell_past K1 (by rw [hRs]; rw [length_gnv] at hj; omega)) (fun j hj => K1.frozen _) (fun v hv => by have := gnv_ones [x] v (by simpa [flat] using hv); exact this)
  obtain ⟨W2, hW2⟩ : ∃ W2, W1.setCells g1 (i * 2) (gnv x) = W2 := ⟨_, rfl⟩
  have K2 : Blk W2 g1 54 (setLV ROW.toList (i * 2) (gnv x)).toArray := by rw [← hW2]; exact Blk.cells _ W1 ROW _ K1
  have Kg2 : Blk W2 g 54 cur := by
    rw [← hW2]
    exact ((grown_cells g1 (gnv x) W1 (i * 2)).block g Kg.lt (by simp; omega)).trans Kg
  have G2 : w.grownBy W2 (some g) := by
    rw [← hW2]
    have h := grown_cells g1 (gnv x) W1 (i * 2)
    exact ⟨h.os.trans G1.os, h.tape.trans G1.tape, h.output.trans G1.output, Nat.le_trans G1.size h.size, fun k hk hne => (h.block k (Nat.lt_of_lt_of_le hk G1.size) (by simp; omega)).trans (G1.block k hk hne)⟩
  rw [hW2] at hcpA
  have hs2 : (setLV ROW.toList (i * 2) (gnv x)).toArray.size = G * 2 := by rw [List.size_toArray, setLV_len, Array.length_toList, hRs]
  have hdl : ((flat gnv l).drop (i * 2)).length = (n - i) * 2 := by rw [List.length_drop, hX4]; omega
  have hcpB : ∀ ty dc sc, (Builtin.copy_ #[34, 34] ty #[.slice (some ⟨g1, (i + 1) * 2, none⟩) (n + 1 - (i + 1)) dc, .slice (some ⟨g, i * 2, none⟩) (n - i) sc]).run Tryd.prog W2.drew = .ok (goInt ((n - i : Nat) : Int)) (W2.drew.setCells g1 ((i + 1) * 2) ((flat gnv l).drop (i * 2))) := fun ty dc sc =>
    run_copy_many W2.drew _ _ ty 54 g1 ((i + 1) * 2) (n + 1 - (i + 1)) dc 2 (n - i) ⟨g, i * 2, none⟩ (n - i) sc ((flat gnv l).drop (i * 2)) Tryd.underlying34 hsize (by simp only [Nat.min_def]; split <;> omega) hdl
      (fun j v hj => by
        rw [Addr.add_lit]
        rw [List.getElem?_drop] at hj
        exact cell_list (w := W2.drew) Kg2 hX hj)
      (fun j hj => cell_past (w := W2.drew) K2 (by rw [hs2]; rw [hdl] at hj; omega)) (fun j hj => Blk.frozen (w := W2.drew) K2 _) (fun v hv => gnv_ones l v (List.mem_of_mem_drop hv))
  have HF : Hid ((W2.drew.setCells g1 ((i + 1) * 2) ((flat gnv l).drop (i * 2))).ownsRow b 54 2 (.slice (some ⟨g1, 0, none⟩) (n + 1) G) (n + 1) (flat gnv (l.take i ++ x :: l.drop i)) ∧ w.grownBy (W2.drew.setCells g1 ((i + 1) * 2) ((flat gnv l).drop (i * 2))) (some g) ∧ w.heap.size ≤ g1) := Lib.hid ⟨by
    refine own_blk (Blk.cells _ W2.drew _ ((i + 1) * 2) K2) (by omega) hG2 (by rw [List.size_toArray, setLV_len, Array.length_toList, hs2]) hG1 ?_
    rw [List.toList_toArray, List.toList_toArray, flat_append, flat_cons, flat_take_ length_gnv, flat_drop_ length_gnv, ← List.append_assoc, show (n + 1) * 2 = n * 2 + 2 by omega, show (i + 1) * 2 = i * 2 + 2 by omega]
    exact ins_cells2 hX4 hRt (length_gnv x) (by omega) (by rw [Array.length_toList, hRs]; omega), by
    have h := grown_cells g1 ((flat gnv l).drop (i * 2)) W2.drew ((i + 1) * 2)
    exact ⟨h.os.trans G2.os, h.tape.trans G2.tape, h.output.trans G2.output, Nat.le_trans G2.size h.size, fun k hk hne => (h.block k (Nat.lt_of_lt_of_le hk G2.size) (by simp; omega)).trans (G2.block k hk hne)⟩, by omega⟩
  have HWr : Hid (IntKind.i64.wrap ((i : Int) + 1) = (i : Int) + 1) := Lib.hid (by rw [IntKind.wrap_i64]; omega)
  have b0 : ((i : Int) == (n : Int)) = false := by simp; omega
  have b1 : decide ((c : Int) < (n : Int) + 1) = true := decide_eq_true (by omega)
  have b2 : ¬ (G = i + 1) := by omega
  have b3 : (i : Int) ≤ (n : Int) + 1 := by omega
  have b4 : ¬ (c = i) := by omega
  have b5 : ¬ (G = i) := by omega
  have b6 : (i : Int) + 1 ≤ (n : Int) + 1 := by omega
  have b7 : (i : Int) ≤ (n : Int) := by omega
  have b8 : (0 : Int) ≤ (i : Int) := by omega
  have b9 : (0 : Int) ≤ (i : Int) + 1 := by omega
  have ba : (n : Int) ≤ (c : Int) := by omega
  have bb : (i : Int) ≤ (c : Int) := by omega
  have bc : (n : Int) + 1 ≤ (G : Int) := by omega
  have HG2 := Lib.hid hG2
  clear K1 Kg V1 G1 K2 Kg2 G2 hs2 hW1 hW2 hdl hX4 hV K hX hsize hROW hRs hRt hG hold hik htl hG2 hz0 hz1 hz2 hi0
  go_enter Tryd.func28, Tryd.ntmps28
  go_wp2_with (first
    | (at_builtin; refine Lib.wpList_append_run _ rfl (.tmp 34) (.tmp 39) _ _ rfl (.slice (some ⟨g, 0, none⟩) i c) (.int .i64 ((n : Int) + 1 - (i : Int))) rfl rfl _ _ (hrz _) ?_)
    | (refine wpList_copy_run _ rfl (.tmp 43) (.tmp 44) 34 34 rfl (.slice (some ⟨g1, i * 2, none⟩) (n + 1 - i) (G - i)) (.slice (some ⟨vb, 0, none⟩) 1 1) rfl rfl (hcpA _ _) ?_))
  refine wp_region_held_drew (S := fun _ => True) (by kernel_rfl) trivial (fun hS => ?_)
  refine wpAnyH_take (i := 0) (v := .slice (some ⟨g1, 0, none⟩) (n + 1) G) rfl (by kernel_rfl) (by kernel_rfl) (by kernel_rfl) (fun _ _ _ h => h) (Or.inl ⟨by kernel_rfl, fun u hSw => (by go_simp)⟩) hS ?_
  change wpAnyH _ _ _ _ _ _ _ (Act.put _ (some 46) _) _
  simp only [Act.put]
  refine wpAnyH_take (i := 1) (v := .int .i64 (i : Int)) rfl (by kernel_rfl) (by kernel_rfl) (by kernel_rfl) (fun _ _ _ h => h) (Or.inl ⟨by kernel_rfl, fun u hSw => (by go_simp)⟩) hS ?_
  change wpAnyH _ _ _ _ _ _ _ (Act.put _ (some 47) _) _
  simp only [Act.put]
  refine wpAnyH_take (i := 2) (v := .int .i64 1) rfl (by kernel_rfl) (by kernel_rfl) (by kernel_rfl) (fun _ _ _ h => h) (Or.inl ⟨by kernel_rfl, fun u hSw => (by go_simp)⟩) hS ?_
  change wpAnyH _ _ _ _ _ _ _ (Act.put _ (some 48) _) _
  simp only [Act.put]
  refine wpAnyH_take (i := 3) (v := .int .i64 ((i : Int) + 1)) rfl (by kernel_rfl) (by kernel_rfl) (by kernel_rfl) (fun _ _ _ h => h) (Or.inl ⟨by kernel_rfl, fun u hSw => (by go_simp; exact HWr.out)⟩) hS ?_
  change wpAnyH _ _ _ _ _ _ _ (Act.put _ (some 49) _) _
  simp only [Act.put]
  refine wpAnyH_take (i := 4) (v := .slice (some ⟨g1, (i + 1) * 2, none⟩) (n + 1 - (i + 1)) (G - (i + 1))) rfl (by kernel_rfl) (by kernel_rfl) (by kernel_rfl) (fun _ _ _ h => h) (Or.inl ⟨by kernel_rfl, fun u hSw => (by go_simp)⟩) hS ?_
  change wpAnyH _ _ _ _ _ _ _ (Act.put _ (some 50) _) _
  simp only [Act.put]
  refine wpAnyH_take (i := 5) (v := .slice (some ⟨g, 0, none⟩) n c) rfl (by kernel_rfl) (by kernel_rfl) (by kernel_rfl) (fun _ _ _ h => h) (Or.inl ⟨by kernel_rfl, fun u hSw => (by go_simp)⟩) hS ?_
  change wpAnyH _ _ _ _ _ _ _ (Act.put _ (some 51) _) _
  simp only [Act.put]
  refine wpAnyH_take (i := 6) (v := .int .i64 (i : Int)) rfl (by kernel_rfl) (by kernel_rfl) (by kernel_rfl) (fun _ _ _ h => h) (Or.inl ⟨by kernel_rfl, fun u hSw => (by go_simp)⟩) hS ?_
  change wpAnyH _ _ _ _ _ _ _ (Act.put _ (some 52) _) _
  simp only [Act.put]
  refine wpAnyH_take (i := 7) (v := .slice (some ⟨g, i * 2, none⟩) (n - i) (c - i)) rfl (by kernel_rfl) (by kernel_rfl) (by kernel_rfl) (fun _ _ _ h => h) (Or.inl ⟨by kernel_rfl, fun u hSw => (by go_simp)⟩) hS ?_
  change wpAnyH _ _ _ _ _ _ _ (Act.put _ (some 53) _) _
  simp only [Act.put]
  refine wpAnyH_ready (rs := [8]) (by kernel_rfl) (by simp) ?_
  refine AllReadyH.cons rfl (fun K hK => ?_) AllReadyH.nil
  refine step_copy_run rfl (.tmp 50) (.tmp 53) 34 34 rfl (.slice (some ⟨g1, (i + 1) * 2, none⟩) (n + 1 - (i + 1)) (G - (i + 1))) (.slice (some ⟨g, i * 2, none⟩) (n - i) (c - i)) (by simp [Act.eval]) (by simp [Act.eval]) (hcpB _ _ _) ?_
  refine hK.out _ _ trivial (fun hS => ?_)
  clear hK K
  refine wpAnyH_done (by kernel_rfl) ?_ _
  clear hS
  go_simp
  go_wp2
  go_ret
  exact ⟨⟨some ⟨g1, 0, none⟩, G, rfl, HF.out.1, fun k hk => by injection hk with hk; exact .inr (by rw [← hk]; exact HF.out.2.2)⟩, HF.out.2.1⟩

/-- one element put in -/
theorem ginsert_any (b n c i : Nat) (A : Option Addr) (l : List Gn) (vb : Nat) (x : Gn) (w : World) (hO : w.ownsRow b 54 2 (.slice A n c) n (flat gnv l)) (hb : b ≤ w.heap.size) (hV : Blk w vb 54 (agN x)) (hne : ∀ k, (Value.slice A n c).ownBlock = some k → vb ≠ k) (hl : l.length = n) (hi : i ≤ n) (hn : n ≤ 1000) :
    Calls Tryd.prog 28 #[.slice A n c, .int .i64 (i : Int), .slice (some ⟨vb, 0, none⟩) 1 1] w (Turned w (.slice A n c) b 54 (n + 1) (flat gnv (l.take i ++ x :: l.drop i))) := by
  by_cases h : i = n
  · subst h
    have e : l.take i ++ x :: l.drop i = l ++ [x] := by rw [← hl, List.take_length, List.drop_length]
    rw [e]
    exact ginsend_any b i c A l vb x w hO hb hV hn
  · obtain ⟨g, cur, rfl, hbg, K, hnc, hcm, hsz, hX⟩ := blk_own hO (by omega)
    by_cases hr : n + 1 ≤ c
    · exact ginsin_any b n c i g cur l vb x w K hbg hcm hsz hX hV (hne g rfl) hl (by omega) hr hn
    · exact ginsnew_any b n c i g cur l vb x w K hb hX hV hl (by omega) hnc (by omega) hn

theorem gzero_any (w : World) : (zeroValue 54).run Tryd.prog w = .ok (.agg #[.int .i64 0, .slice none 0 0]) w := by kernel_rfl


set_option maxRecDepth 100000 in
set_option maxHeartbeats 4000000 in
theorem gclone_any (A : Option Addr) (n c : Nat) (l : List Gn) (w : World) (hR : Reads w w.heap.size 2 A n (flat gnv l)) (hn : n ≤ 1000) :
    Calls Tryd.prog 48 #[.slice A n c] w fun e w' => ∃ A' c', e = .returned (.slice A' n c') ∧ w'.ownsRow w.heap.size 54 2 (.slice A' n c') n (flat gnv l) ∧ Below w.heap.size w w' := by
  obtain ⟨i0, hi0, hz0, hz1, hz2⟩ := info_parts9 gang_info
  have hl := gns_len hR
  cases A with
  | none =>
    have h0 : n = 0 := by
      rcases Nat.eq_zero_or_pos n with h | h
      · exact h
      · obtain ⟨ad, e, _⟩ := hR.2 h; cases e
    subst h0
    have e : l = [] := List.eq_nil_of_length_eq_zero hl
    subst e
    have q22 : ∀ W : World, (binOp .eql 34 (.slice none 0 c) (.slice none 0 0)).run Tryd.prog W = .ok (.bool true) W := fun W => Lib.run_eql_slice_nil W _ _ none 0 c 0 0 Tryd.underlying34
    clear hR hl
    go_enter Tryd.func48, Tryd.ntmps48
    go_wp2
    go_ret
    exact ⟨none, 0, rfl, World.ownsRow_nil _ _ _ _, Below.refl _ _⟩
  | some ad =>
    have HR := Lib.hid (hR.alloc (Nat.le_refl _) (.cells #[] 54))
    have q22 : ∀ W : World, (binOp .eql 34 (.slice (some ad) n c) (.slice none 0 0)).run Tryd.prog W = .ok (.bool false) W := fun W => Lib.run_eql_slice_nil W _ _ (some ad) n c 0 0 Tryd.underlying34
    clear hR hl
    go_enter Tryd.func48, Tryd.ntmps48
    go_wp2_with (
      at_builtin
      refine wpList_append_any _ rfl (.tmp 5) (.tmp 6) 34 rfl w.heap.size 54 i0 (.agg #[.int .i64 0, .slice none 0 0]) 2 32 Tryd.underlying34 hi0 hz0 hz1 hz2 rfl (by decide) (.slice (some ⟨w.heap.size, 0, none⟩) 0 0) 0 [] rfl (by simpa using World.ownsRow_made w #[] 0 (Nat.le_refl _) (by simp [maxLen]) (by simp)) w.heap.size (some ad) n c (flat gnv l) rfl HR.out (gnv_ones l) (by simp only [maxLen]; omega) (by omega) (by simp <;> omega) ?_
      intro v2 w2 hown2 hg2 _
      rw [List.nil_append, Nat.zero_add] at hown2
      have B3 := (Below.refl w.heap.size w).alloc (Nat.le_refl _) (.cells #[] 54)
      have HT := Lib.hid (And.intro hown2 (show Below w.heap.size w w2 from B3.grown hg2 B3.size (fun g hg => by simp [Value.ownBlock] at hg; omega)))
      obtain ⟨A2, c2, rfl, hc2, hr2⟩ := own_reads hown2
      clear hown2 hg2 B3 hc2 hr2)
    go_ret
    exact ⟨A2, c2, rfl, HT.out.1, HT.out.2⟩

end Go.Proofs.YtkbgpmgnkegipaaDoor
