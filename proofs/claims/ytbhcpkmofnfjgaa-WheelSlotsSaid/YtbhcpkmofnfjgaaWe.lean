/-
  The library's Replace at timers: of none by one, of one by one. No statement is proved here.
-/
import Derived.Test.YtbhcpkmofnfjgaaWc
namespace Go.Proofs.Ytbhcpkmofnfjgaa
open Go.RowKit

theorem rep_cells {C X V : List Value} {a s N : Nat} (hX : X.length = N) (hC : C.take N = X) (hV : V.length = s) (ha : a + s ≤ N) (hr : N ≤ C.length) : (setLV (setLV C a V) (a + s) (X.drop (a + s))).take N = X.take a ++ V ++ X.drop (a + s) := by
  have hd : (X.drop (a + s)).length = N - (a + s) := by rw [List.length_drop, hX]
  have hta : C.take a = X.take a := by rw [← hC, List.take_take, Nat.min_eq_left (by omega)]
  rw [setLV_eq (X.drop (a + s)) _ (a + s) (by rw [setLV_len, hd]; omega), setLV_eq V C a (by rw [hV]; omega), hV, hta]
  have hl : (X.take a ++ V).length = a + s := by rw [List.length_append, List.length_take, hV, hX]; omega
  have t1 : ∀ R : List Value, (X.take a ++ V ++ R).take (a + s) = X.take a ++ V := fun R => List.take_left' hl
  rw [t1]
  exact List.take_left' (by simp [hX, hV]; omega)
theorem rep_past {C X V : List Value} {a s N j : Nat} {v : Value} (hX : X.length = N) (hC : C.take N = X) (hV : V.length = s) (ha : a + s ≤ N) (hr : N ≤ C.length) (h : (X.drop (a + s))[j]? = some v) : (setLV C a V)[a + s + j]? = some v := by
  have hj := (List.getElem?_eq_some_iff.1 h).1
  rw [List.length_drop, hX] at hj
  rw [setLV_eq V C a (by rw [hV]; omega), hV, List.getElem?_append_right (by rw [List.length_append, List.length_take, hV]; omega), List.length_append, List.length_take, hV, List.getElem?_drop]
  rw [List.getElem?_drop, ← hC, List.getElem?_take] at h
  rw [if_pos (by omega)] at h
  rw [← h]
  congr 1
  omega

set_option maxRecDepth 100000 in
set_option maxHeartbeats 4000000 in
/-- of none -/
theorem trepins_any (b n c i : Nat) (A : Option Addr) (l : List Tm) (vb : Nat) (x : Tm) (w : World) (hO : w.ownsRow b 44 2 (.slice A n c) n (flat tv l)) (hb : b ≤ w.heap.size) (hV : Blk w vb 44 (agT x)) (hne : ∀ k, (Value.slice A n c).ownBlock = some k → vb ≠ k) (hl : l.length = n) (hi : i ≤ n) (hn : n ≤ 1000) :
    Calls Try.prog 30 #[.slice A n c, .int .i64 (i : Int), .int .i64 (i : Int), .slice (some ⟨vb, 0, none⟩) 1 1] w (Turned w (.slice A n c) b 44 (n + 1) (flat tv (l.take i ++ x :: l.drop i))) := by
  have HI := Lib.hid (tinsert_any b n c i A l vb x w hO hb hV hne hl hi hn)
  have hnc : n ≤ c := own_nc hO
  have j0 : (0 : Int) ≤ (i : Int) := by omega
  have j1 : (i : Int) ≤ (c : Int) := by omega
  obtain ⟨Aw, hAw⟩ : ∃ Aw, (if c = i then A else Option.map (fun x => x.add (i * 2)) A) = Aw := ⟨_, rfl⟩
  have e1 : ((i : Int) == (i : Int)) = true := by simp
  clear hO hV hne hb hnc
  go_enter Try.func30, Try.ntmps30
  go_wp2_with fail
  refine HI.out.mono ?_
  rintro e w1 ⟨⟨A2, c2, rfl, h1, h2⟩, h3⟩
  have HT := Lib.hid (And.intro h1 (And.intro h2 h3))
  clear h1 h2 h3
  go_wp2
  go_ret
  exact ⟨⟨A2, c2, rfl, HT.out.1, HT.out.2.1⟩, HT.out.2.2⟩

set_option maxRecDepth 100000 in
set_option maxHeartbeats 8000000 in
/-- the last one -/
theorem treplast_any (b n c i : Nat) (A : Option Addr) (l : List Tm) (vb : Nat) (x : Tm) (w : World) (hO : w.ownsRow b 44 2 (.slice A n c) n (flat tv l)) (hb : b ≤ w.heap.size) (hV : Blk w vb 44 (agT x)) (hl : l.length = n) (hi : i + 1 = n) (hn : n ≤ 1000) :
    Calls Try.prog 30 #[.slice A n c, .int .i64 (i : Int), .int .i64 ((i : Int) + 1), .slice (some ⟨vb, 0, none⟩) 1 1] w (Turned w (.slice A n c) b 44 n (flat tv (l.set i x))) := by
  obtain ⟨i0, hi0, hz0, hz1, hz2⟩ := info_parts9 tm_info
  obtain ⟨g, cur, rfl, hbg, K, hnc, hcm, hsz, hX⟩ := blk_own hO (by omega)
  have HO : Hid (w.ownsRow b 44 2 (.slice (some ⟨g, 0, none⟩) i c) i (flat tv (l.take i))) := Lib.hid (own_blk K hbg hcm hsz (by omega) (by rw [flat_take_ length_tv, ← hX, List.take_take, Nat.min_eq_left (by omega)]))
  have HVr : Hid (Reads w w.heap.size 2 (some ⟨vb, 0, none⟩) 1 (flat tv [x])) := Lib.hid ⟨by simp [flat, length_tv], fun _ => ⟨_, rfl, hV.lt, fun j u hj => by
    rw [Addr.add_lit, Nat.zero_add, hV.cell j]
    simpa [flat, tv] using hj⟩⟩
  have HB := Lib.hid hb
  have HS : Hid (l.take i ++ [x] = l.set i x) := Lib.hid (by
    rw [List.set_eq_take_append_cons_drop, if_pos (by omega), List.drop_eq_nil_of_le (by omega)])
  have HNi := Lib.hid hi
  have hin : i + 1 ≤ 1000 := by omega
  have j0 : (0 : Int) ≤ (i : Int) := by omega
  have j1 : (i : Int) ≤ (c : Int) := by omega
  have j2 : (i : Int) + 1 ≤ (c : Int) := by omega
  have j6 : (i : Int) ≤ (i : Int) + 1 := by omega
  have j9 : (0 : Int) ≤ (i : Int) + 1 := by omega
  have j7 : ((i : Int) == (i : Int) + 1) = false := by simp; omega
  have j8 : ((i : Int) + 1 == (n : Int)) = true := by simp; omega
  have j5 : decide ((i : Int) + 1 < (n : Int)) = false := decide_eq_false (by omega)
  have j5b : ¬ ((i : Int) + 1 < (n : Int)) := by omega
  have b4 : ¬ (c = i) := by omega
  clear K hX hsz hbg hcm hO hV hb hi
  go_enter Try.func30, Try.ntmps30
  go_wp2_with (
    at_builtin
    refine wpList_append_any _ rfl (.tmp 32) (.tmp 33) 22 rfl b 44 i0 (.agg #[.int .i64 0, .int .i64 0]) 2 16 Try.underlying22 hi0 hz0 hz1 hz2 rfl (by decide) (.slice (some ⟨g, 0, none⟩) i c) i (flat tv (l.take i)) rfl HO.out w.heap.size (some ⟨vb, 0, none⟩) 1 1 (flat tv [x]) rfl HVr.out (tv_ones _) (by simp only [maxLen]; omega) (by omega) HB.out ?_
    intro v9 w9 own9 grow9 hw9
    rw [← flat_append, HS.out] at own9
    obtain ⟨A9, c9, rfl, _, _⟩ := own_reads own9
    have HT := Lib.hid (And.intro own9 (And.intro grow9 hw9))
    clear own9 grow9 hw9)
  go_ret
  exact ⟨⟨A9, c9, by first | rfl | (rw [HNi.out]; rfl), by have := HT.out.1; rw [HNi.out] at this; exact this, fun k hk => by
    rcases HT.out.2.2 with e | e
    · rw [HNi.out] at e; rw [e] at hk; exact .inl hk
    · rw [HNi.out] at e; rw [e] at hk; injection hk with hk; exact .inr (by omega)⟩, HT.out.2.1⟩

set_option maxRecDepth 100000 in
set_option maxHeartbeats 8000000 in
/-- one in the middle -/
theorem trepmid_any (b n c i : Nat) (A : Option Addr) (l : List Tm) (vb : Nat) (x : Tm) (w : World) (hO : w.ownsRow b 44 2 (.slice A n c) n (flat tv l)) (hV : Blk w vb 44 (agT x)) (hne : ∀ k, (Value.slice A n c).ownBlock = some k → vb ≠ k) (hl : l.length = n) (hi : i + 1 < n) (hn : n ≤ 1000) :
    Calls Try.prog 30 #[.slice A n c, .int .i64 (i : Int), .int .i64 ((i : Int) + 1), .slice (some ⟨vb, 0, none⟩) 1 1] w (Turned w (.slice A n c) b 44 n (flat tv (l.set i x))) := by
  obtain ⟨g, cur, rfl, hbg, K, hnc, hcm, hsz, hX⟩ := blk_own hO (by omega)
  have hsize : (Try.prog.info? 44).map (·.size) = some 2 := by kernel_rfl
  have hX4 : (flat tv l).length = n * 2 := by rw [length_flat tv length_tv, hl]
  have hvg : vb ≠ g := hne g rfl
  have HCP : Hid (∀ (m : Nat) ty, ∃ W1, (Builtin.copy_ #[22, 22] ty #[.slice (some ⟨g, i * 2, none⟩) (n - i) (c - i), .slice (some ⟨vb, 0, none⟩) 1 1]).run Try.prog (w.drewN m) = .ok (goInt ((1 : Nat) : Int)) W1 ∧ W1 = (w.drewN m).setCells g (i * 2) (tv x)) := Lib.hid (fun m ty => ⟨_,
    run_copy_many (w.drewN m) _ _ ty 44 g (i * 2) (n - i) (c - i) 2 1 ⟨vb, 0, none⟩ 1 1 (tv x) Try.underlying22 hsize (by simp only [Nat.min_def]; split <;> omega) (length_tv x)
      (fun j v hj => by
        rw [Addr.add_lit, Nat.zero_add, (hV.drewN m).cell j]
        simpa [tv] using hj)
      (fun j hj => cell_past (K.drewN m) (by rw [length_tv] at hj; omega)) (fun j hj => (K.drewN m).frozen _) (fun v hv => tv_ones [x] v (by simpa [flat] using hv)), rfl⟩)
  have HMI : Hid (∀ (m : Nat) (W1 : World), W1 = (w.drewN m).setCells g (i * 2) (tv x) → Blk W1 g 44 (setLV cur.toList (i * 2) (tv x)).toArray ∧ w.grownBy W1 (some g)) := Lib.hid (fun m W1 e => by
    subst e
    have h := grown_cells g (tv x) (w.drewN m) (i * 2)
    exact ⟨Blk.cells _ (w.drewN m) cur _ (K.drewN m), ⟨h.os, h.tape, h.output, h.size, h.block⟩⟩)
  have hl2 : ((flat tv l).drop ((i + 1) * 2)).length = (n - (i + 1)) * 2 := by rw [List.length_drop, hX4]; omega
  have HC2 : Hid (∀ (W1 : World) (K1 : Blk W1 g 44 (setLV cur.toList (i * 2) (tv x)).toArray) ty dc sc, (Builtin.copy_ #[22, 22] ty #[.slice (some ⟨g, (i + 1) * 2, none⟩) (n - (i + 1)) dc, .slice (some ⟨g, (i + 1) * 2, none⟩) (n - (i + 1)) sc]).run Try.prog W1.drew = .ok (goInt ((n - (i + 1) : Nat) : Int)) (W1.drew.setCells g ((i + 1) * 2) ((flat tv l).drop ((i + 1) * 2)))) := Lib.hid (fun W1 K1 ty dc sc =>
    run_copy_many W1.drew _ _ ty 44 g ((i + 1) * 2) (n - (i + 1)) dc 2 (n - (i + 1)) ⟨g, (i + 1) * 2, none⟩ (n - (i + 1)) sc ((flat tv l).drop ((i + 1) * 2)) Try.underlying22 hsize (by simp only [Nat.min_def]; split <;> omega) hl2
      (fun j v hj => by
        rw [Addr.add_lit, Blk.cell (w := W1.drew) K1]
        have e : (i + 1) * 2 = i * 2 + 2 := by omega
        rw [e] at hj ⊢
        have := rep_past hX4 hX (length_tv x) (by omega) (by rw [Array.length_toList, hsz]; omega) hj
        simpa using this)
      (fun j hj => cell_past (w := W1.drew) K1 (by rw [hl2] at hj; rw [List.size_toArray, setLV_len, Array.length_toList, hsz]; omega)) (fun j hj => Blk.frozen (w := W1.drew) K1 _) (fun v hv => tv_ones l v (List.mem_of_mem_drop hv)))
  have HFI : Hid (∀ (W1 : World) (K1 : Blk W1 g 44 (setLV cur.toList (i * 2) (tv x)).toArray) (G1 : w.grownBy W1 (some g)), (W1.drew.setCells g ((i + 1) * 2) ((flat tv l).drop ((i + 1) * 2))).ownsRow b 44 2 (.slice (some ⟨g, 0, none⟩) n c) n (flat tv (l.set i x)) ∧ w.grownBy (W1.drew.setCells g ((i + 1) * 2) ((flat tv l).drop ((i + 1) * 2))) (some g)) := Lib.hid (fun W1 K1 G1 => ⟨by
    refine own_blk (Blk.cells _ W1.drew _ ((i + 1) * 2) K1) hbg hcm (by simp [setLV_len, hsz]) hnc ?_
    rw [List.toList_toArray, List.toList_toArray, List.set_eq_take_append_cons_drop, if_pos (by omega), flat_append, flat_cons, flat_take_ length_tv, flat_drop_ length_tv, ← List.append_assoc, show (i + 1) * 2 = i * 2 + 2 by omega]
    exact rep_cells hX4 hX (length_tv x) (by omega) (by rw [Array.length_toList, hsz]; omega), by
    have h := grown_cells g ((flat tv l).drop ((i + 1) * 2)) W1.drew ((i + 1) * 2)
    exact grown_trans G1 ⟨h.os, h.tape, h.output, h.size, h.block⟩⟩)
  have hcl : ∀ (ty : TypeId) (A : Option Addr) (k : Nat) (W : World), (Builtin.clear_ #[22] ty #[.slice A 0 k]).run Try.prog W = .ok (.tuple #[]) W := fun ty A k W => by
    cases A <;> simp [Builtin.clear_, run_underlying (P := Try.prog) Try.underlying22]
  have HWr : Hid (IntKind.i64.wrap ((i : Int) + 1) = (i : Int) + 1) := Lib.hid (by rw [IntKind.wrap_i64]; omega)
  have HE : Hid ((i : Int) + 1 + ((n - (i + 1) : Nat) : Int) = (n : Int)) := Lib.hid (by omega)
  have j0 : (0 : Int) ≤ (i : Int) := by omega
  have j1 : (i : Int) ≤ (c : Int) := by omega
  have j2 : (i : Int) + 1 ≤ (c : Int) := by omega
  have j3 : (i : Int) + 1 ≤ (n : Int) := by omega
  have j4 : (i : Int) ≤ (n : Int) := by omega
  have j5 : (n : Int) ≤ (c : Int) := by omega
  have j6 : (i : Int) ≤ (i : Int) + 1 := by omega
  have j9 : (0 : Int) ≤ (i : Int) + 1 := by omega
  have jn : (0 : Int) ≤ (n : Int) := by omega
  have j7 : ((i : Int) == (i : Int) + 1) = false := by simp; omega
  have j8 : ((i : Int) + 1 == (n : Int)) = false := by simp; omega
  have b1 : decide ((c : Int) < (n : Int)) = false := decide_eq_false (by omega)
  have b2 : ¬ (c = i) := by omega
  have b3 : ¬ (c = i + 1) := by omega
  have b4 : decide ((i : Int) + 1 ≤ (i : Int) + 1) = true := by simp
  clear hne K hX4 hX hsz hbg hcm hl hO hsize hV hvg hl2
  go_enter Try.func30, Try.ntmps30
  go_upto_region 9 with fail
  go_quiet (fail)
  rw [HE.out]
  obtain ⟨W1, hr1, hW1⟩ := HCP.out nq 3
  obtain ⟨K1, G1⟩ := HMI.out nq W1 hW1
  have HCq := Lib.hid (HC2.out W1 K1)
  have HF := Lib.hid (HFI.out W1 K1 G1)
  obtain ⟨Az, hAz⟩ : ∃ Az, (if c = n then some (⟨g, 0, none⟩ : Addr) else some ⟨g, n * 2, none⟩) = Az := ⟨_, rfl⟩
  have hcp2 := HCq.out
  clear hW1 K1 G1 HMI HC2 HFI HCP HE HCq
  go_wp2_with (refine wpList_copy_run _ rfl (.tmp 95) (.tmp 96) 22 22 rfl (.slice (some ⟨g, i * 2, none⟩) (n - i) (c - i)) (.slice (some ⟨vb, 0, none⟩) 1 1) rfl rfl hr1 ?_)
  refine wp_region_held_drew (S := fun _ => True) (by kernel_rfl) trivial (fun hS => ?_)
  refine wpAnyH_take (i := 0) (v := .slice (some ⟨g, 0, none⟩) n c) rfl (by kernel_rfl) (by kernel_rfl) (by kernel_rfl) (fun _ _ _ h => h) (Or.inl ⟨by kernel_rfl, fun u hSw => (by go_simp)⟩) hS ?_
  change wpAnyH _ _ _ _ _ _ _ (Act.put _ (some 98) _) _
  simp only [Act.put]
  refine wpAnyH_take (i := 1) (v := .int .i64 (i : Int)) rfl (by kernel_rfl) (by kernel_rfl) (by kernel_rfl) (fun _ _ _ h => h) (Or.inl ⟨by kernel_rfl, fun u hSw => (by go_simp)⟩) hS ?_
  change wpAnyH _ _ _ _ _ _ _ (Act.put _ (some 99) _) _
  simp only [Act.put]
  refine wpAnyH_take (i := 2) (v := .slice (some ⟨vb, 0, none⟩) 1 1) rfl (by kernel_rfl) (by kernel_rfl) (by kernel_rfl) (fun _ _ _ h => h) (Or.inl ⟨by kernel_rfl, fun u hSw => (by go_simp)⟩) hS ?_
  change wpAnyH _ _ _ _ _ _ _ (Act.put _ (some 100) _) _
  simp only [Act.put]
  refine wpAnyH_take (i := 3) (v := .int .i64 1) rfl (by kernel_rfl) (by kernel_rfl) (by kernel_rfl) (fun _ _ _ h => h) (Or.inl ⟨by kernel_rfl, fun u hSw => (by go_simp)⟩) hS ?_
  change wpAnyH _ _ _ _ _ _ _ (Act.put _ (some 101) _) _
  simp only [Act.put]
  refine wpAnyH_take (i := 4) (v := .int .i64 ((i : Int) + 1)) rfl (by kernel_rfl) (by kernel_rfl) (by kernel_rfl) (fun _ _ _ h => h) (Or.inl ⟨by kernel_rfl, fun u hSw => (by go_simp; exact HWr.out)⟩) hS ?_
  change wpAnyH _ _ _ _ _ _ _ (Act.put _ (some 102) _) _
  simp only [Act.put]
  refine wpAnyH_take (i := 5) (v := .slice (some ⟨g, (i + 1) * 2, none⟩) (n - (i + 1)) (c - (i + 1))) rfl (by kernel_rfl) (by kernel_rfl) (by kernel_rfl) (fun _ _ _ h => h) (Or.inl ⟨by kernel_rfl, fun u hSw => (by go_simp)⟩) hS ?_
  change wpAnyH _ _ _ _ _ _ _ (Act.put _ (some 103) _) _
  simp only [Act.put]
  refine wpAnyH_take (i := 6) (v := .slice (some ⟨g, 0, none⟩) n c) rfl (by kernel_rfl) (by kernel_rfl) (by kernel_rfl) (fun _ _ _ h => h) (Or.inl ⟨by kernel_rfl, fun u hSw => (by go_simp)⟩) hS ?_
  change wpAnyH _ _ _ _ _ _ _ (Act.put _ (some 104) _) _
  simp only [Act.put]
  refine wpAnyH_take (i := 7) (v := .int .i64 ((i : Int) + 1)) rfl (by kernel_rfl) (by kernel_rfl) (by kernel_rfl) (fun _ _ _ h => h) (Or.inl ⟨by kernel_rfl, fun u hSw => (by go_simp)⟩) hS ?_
  change wpAnyH _ _ _ _ _ _ _ (Act.put _ (some 105) _) _
  simp only [Act.put]
  refine wpAnyH_take (i := 8) (v := .slice (some ⟨g, (i + 1) * 2, none⟩) (n - (i + 1)) (c - (i + 1))) rfl (by kernel_rfl) (by kernel_rfl) (by kernel_rfl) (fun _ _ _ h => h) (Or.inl ⟨by kernel_rfl, fun u hSw => (by go_simp)⟩) hS ?_
  change wpAnyH _ _ _ _ _ _ _ (Act.put _ (some 106) _) _
  simp only [Act.put]
  refine wpAnyH_ready (rs := [9]) (by kernel_rfl) (by simp) ?_
  refine AllReadyH.cons rfl (fun K hK => ?_) AllReadyH.nil
  refine step_copy_run rfl (.tmp 103) (.tmp 106) 22 22 rfl (.slice (some ⟨g, (i + 1) * 2, none⟩) (n - (i + 1)) (c - (i + 1))) (.slice (some ⟨g, (i + 1) * 2, none⟩) (n - (i + 1)) (c - (i + 1))) (by simp [Act.eval]) (by simp [Act.eval]) (hcp2 _ _ _) ?_
  refine hK.out _ _ trivial (fun hS => ?_)
  clear hK K
  refine wpAnyH_done (by kernel_rfl) ?_ _
  clear hS
  go_simp
  go_wp2
  go_ret
  exact ⟨⟨some ⟨g, 0, none⟩, c, rfl, HF.out.1, fun k hk => .inl hk⟩, HF.out.2⟩

end Go.Proofs.Ytbhcpkmofnfjgaa
