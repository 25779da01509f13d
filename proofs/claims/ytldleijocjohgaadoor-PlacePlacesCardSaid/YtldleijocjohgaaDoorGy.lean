/-
  The contract of the document's Puts. No statement is proved here.
-/
import Derived.Test.YtldleijocjohgaaDoorGx
namespace Go.Proofs.YtldleijocjohgaaDoor
open Go.RowKit

theorem atL_at {l : List Wi} {k : Nat} {x : Wi} (hk : l[k]? = some x) (S : Nat) : (atL l S)[k]? = some (takesV x (lefts bestW (l.take k) S)) := by
  have hlt := (List.getElem?_eq_some_iff.1 hk).1
  obtain ⟨r, hr⟩ := tus_prefix bestW (l := l) (k + 1) S
  unfold atL
  rw [← hr, List.map_append]
  have e := atL_step hk S
  unfold atL at e
  rw [e, List.append_assoc, List.getElem?_append_right (by rw [List.length_map, tus_length, List.length_take]; omega), List.length_map, tus_length, List.length_take, Nat.min_eq_left (by omega), Nat.sub_self]
  rfl
theorem putsT_yes {l : List Wi} {k : Nat} {x : Wi} (hk : l[k]? = some x) {S : Nat} (h : 0 ≤ takesV x (lefts bestW (l.take k) S)) :
    putsOf (tus bestW (l.take (k + 1)) S) = putsOf (tus bestW (l.take k) S) ++ [(x.v, takesV x (lefts bestW (l.take k) S))] := by
  rw [tus_step bestW hk]
  unfold takesV cOf at *
  cases hp : (bestW x (lefts bestW (l.take k) S)).2 with
  | false => rw [hp, if_neg (by simp)] at h; omega
  | true => rw [if_pos rfl, puts_yes rfl]
theorem putsT_no {l : List Wi} {k : Nat} {x : Wi} (hk : l[k]? = some x) {S : Nat} (hx : UW x) (hr : rightM (x.h, x.s) = true) (hS : S < 256) (h : ¬ 0 ≤ takesV x (lefts bestW (l.take k) S)) :
    takesV x (lefts bestW (l.take k) S) = -1 ∧ putsOf (tus bestW (l.take (k + 1)) S) = putsOf (tus bestW (l.take k) S) := by
  refine ⟨(takes_no hx hr (lefts_small bestW _ S hS) h).1, ?_⟩
  rw [tus_step bestW hk]
  cases hp : (bestW x (lefts bestW (l.take k) S)).2 with
  | false => rw [puts_no rfl]
  | true =>
    unfold takesV cOf at h
    rw [hp, if_pos rfl] at h
    exact absurd (cpuB_true (has_cpu (al_in hx hr (lefts_small bestW _ S hS) ((best_facts hx _).1 hp)))).1 h

set_option maxRecDepth 100000 in
set_option maxHeartbeats 4000000 in
theorem rputs_any (A A' : Option Addr) (n c c' : Nat) (l : List Wi) (S : Nat) (w : World) (hR : Reads w w.heap.size 4 A n (wivs l)) (hA : Reads w w.heap.size 1 A' n (vs (atL l S))) (hU : ∀ (k : Nat) (x : Wi), l[k]? = some x → UW x) (hr : rightW l = true) (hS : S < 256) (hn : n ≤ 1000) :
    Calls Tryd.prog 17 #[.slice A n c, .slice A' n c'] w (fun e w' => ∃ v, e = .returned v ∧ w'.ownsRow w.heap.size 52 2 v (putsOf (tus bestW l S)).length (svs (putsOf (tus bestW l S))) ∧ Below w.heap.size w w') := by
  obtain ⟨i0, hi, hz0, hz1, hz2⟩ := info_parts put_info
  have HL := Lib.hid (wishes_len hR)
  have HR := Lib.hid hR
  have HA := Lib.hid hA
  have HY := Lib.hid (fun (k : Nat) (x : Wi) (h : l[k]? = some x) h2 => putsT_yes h (S := S) h2)
  have HN := Lib.hid (fun (k : Nat) (x : Wi) (h : l[k]? = some x) h2 => putsT_no h (hU k x h) (wi_parts (right_wish hr h).1).2.2.2.2 hS h2)
  have HT := Lib.hid (fun (k : Nat) (x : Wi) (h : l[k]? = some x) => atL_at h S)
  have HML := Lib.hid (fun (k : Nat) => Nat.le_trans (puts_le (tus bestW (l.take k) S)) (by rw [tus_length]; exact List.length_take_le' k l))
  have HE : Hid (∀ k, k = n → putsOf (tus bestW (l.take k) S) = putsOf (tus bestW l S)) := Lib.hid (fun k h => by rw [h, show l.take n = l by rw [← HL.out]; exact List.take_length])
  generalize putsOf (tus bestW l S) = PS at *
  clear hR hA hU hr hS
  go_enter Tryd.func17, Tryd.ntmps17
  go_wp2_with fail
  go_loopw [5, 6] (fun v i wr => ∃ k m : Nat, k ≤ n ∧ i = .int .i64 (k : Int) ∧ m = (putsOf (tus bestW (l.take k) S)).length ∧ wr.ownsRow w.heap.size 52 2 v m (svs (putsOf (tus bestW (l.take k) S))) ∧ Below w.heap.size w wr) (fun _ i _ => n - (intOf i).toNat)
  case atStart => exact ⟨0, 0, by omega, rfl, rfl, World.ownsRow_nil _ _ _ _, Below.refl _ _⟩
  case round =>
    obtain ⟨k, m, hk, rfl, hm5, hO, hB⟩ := hrel
    by_cases hlt : k < n
    · obtain ⟨x, hm⟩ := elem_at (l := l) (k := k) (by rw [HL.out]; exact hlt)
      have HY2 := Lib.hid (HY.out k x hm)
      have HN2 := Lib.hid (HN.out k x hm)
      have HT2 := HT.out k x hm
      have hm1000 : m ≤ 1000 := by have := HML.out k; have := HL.out; omega
      obtain ⟨ad, rfl, hb, d0, _⟩ := wish_at (HR.out.below hB) hm
      obtain ⟨ad', v', rfl, _, hx', dA⟩ := (HA.out.below hB).at_ hlt
      obtain ⟨T', hT', rfl⟩ := vs_at hx'
      obtain rfl : T' = takesV x (lefts bestW (l.take k) S) := by rw [HT2] at hT'; exact (Option.some.inj hT').symm
      have HXS : Hid (∀ u, Below w.heap.size w u → u.cell? (ad.add (k * 4)) = some (.int .i64 x.v) ∧ u.cell? (ad'.add k) = some (.int .i64 (takesV x (lefts bestW (l.take k) S)))) := Lib.hid (fun u hb2 => by
        obtain ⟨ad2, e, _, e0, _⟩ := wish_at (HR.out.below hb2) hm
        injection e with e
        subst e
        obtain ⟨ad3, v3, e, _, hx3, e1⟩ := (HA.out.below hb2).at_ hlt
        injection e with e
        subst e
        rw [hx'] at hx3
        injection hx3 with hx3
        subst hx3
        exact ⟨e0, e1⟩)
      have i1 : (0 : Int) ≤ (k : Int) := by omega
      have i2 : (k : Int) < (n : Int) := by omega
      clear hm hx' hT' HT2 hb
      generalize takesV x (lefts bestW (l.take k) S) = T at *
      generalize putsOf (tus bestW (l.take k) S) = Q at *
      obtain ⟨Q2, hQ2⟩ : ∃ Q2, putsOf (tus bestW (l.take (k + 1)) S) = Q2 := ⟨_, rfl⟩
      rw [hQ2] at HY2 HN2
      have HQ2 := Lib.hid hQ2
      clear hQ2
      generalize x.v = xv at *
      by_cases hT : 0 ≤ T
      · have g1 : decide ((0 : Int) ≤ T) = true := decide_eq_true hT
        have HQ := Lib.hid (HY2.out hT)
        clear HY2 HN2
        go_upto_region 6 with fail
        have E0 := (Below.refl wr.heap.size wr).drew
        have hrow := own_below hO E0
        have hBV := hB.trans (E0.mono hB.size)
        clear hO hB E0 d0 dA
        refine wp_region_held_drew (S := fun u => u.cell? (ad.add (k * 4)) = some (.int .i64 xv) ∧ u.cell? (ad'.add k) = some (.int .i64 T)) (by kernel_rfl) (HXS.out _ hBV) (fun hS => ?_)
        generalize wr.drew = V at *
        refine wpAnyH_take (i := 0) (v := u5) rfl (by kernel_rfl) (by kernel_rfl) (by kernel_rfl) (fun _ _ _ h => h) (Or.inl ⟨by kernel_rfl, fun u hSw => (by go_simp)⟩) hS ?_
        try simp only [Act.put]
        refine wpAnyH_take (i := 1) (v := .slice (some ad) n c) rfl (by kernel_rfl) (by kernel_rfl) (by kernel_rfl) (fun _ _ _ h => h) (Or.inl ⟨by kernel_rfl, fun u hSw => (by go_simp)⟩) hS ?_
        try simp only [Act.put]
        refine wpAnyH_take (i := 2) (v := .int .i64 (k : Int)) rfl (by kernel_rfl) (by kernel_rfl) (by kernel_rfl) (fun _ _ _ h => h) (Or.inl ⟨by kernel_rfl, fun u hSw => (by go_simp)⟩) hS ?_
        try simp only [Act.put]
        refine wpAnyH_take (i := 3) (v := .pointer (some (ad.add (k * 4)))) rfl (by kernel_rfl) (by kernel_rfl) (by kernel_rfl) (fun _ _ _ h => h) (Or.inl ⟨by kernel_rfl, fun u hSw => (by go_simp)⟩) hS ?_
        try simp only [Act.put]
        refine wpAnyH_take (i := 4) (v := .pointer (some (ad.add (k * 4)))) rfl (by kernel_rfl) (by kernel_rfl) (by kernel_rfl) (fun _ _ _ h => h) (Or.inl ⟨by kernel_rfl, fun u hSw => (by go_simp)⟩) hS ?_
        try simp only [Act.put]
        refine wpAnyH_take (i := 5) (v := .int .i64 xv) rfl (by kernel_rfl) (by kernel_rfl) (by kernel_rfl) (fun _ _ _ h => h) (Or.inl ⟨by kernel_rfl, fun u hSw => (by have q0 := hSw.1; have q1 := hSw.2; go_simp)⟩) hS ?_
        try simp only [Act.put]
        refine wpAnyH_take (i := 6) (v := .slice (some ad') n c') rfl (by kernel_rfl) (by kernel_rfl) (by kernel_rfl) (fun _ _ _ h => h) (Or.inl ⟨by kernel_rfl, fun u hSw => (by go_simp)⟩) hS ?_
        try simp only [Act.put]
        refine wpAnyH_take (i := 7) (v := .int .i64 (k : Int)) rfl (by kernel_rfl) (by kernel_rfl) (by kernel_rfl) (fun _ _ _ h => h) (Or.inl ⟨by kernel_rfl, fun u hSw => (by go_simp)⟩) hS ?_
        try simp only [Act.put]
        refine wpAnyH_take (i := 8) (v := (.pointer (some (ad'.add k)))) rfl (by kernel_rfl) (by kernel_rfl) (by kernel_rfl) (fun _ _ _ h => h) (Or.inl ⟨by kernel_rfl, fun u hSw => (by go_simp)⟩) hS ?_
        try simp only [Act.put]
        refine wpAnyH_take (i := 9) (v := .int .i64 T) rfl (by kernel_rfl) (by kernel_rfl) (by kernel_rfl) (fun _ _ _ h => h) (Or.inl ⟨by kernel_rfl, fun u hSw => (by have q0 := hSw.1; have q1 := hSw.2; go_simp)⟩) hS ?_
        try simp only [Act.put]
        refine wpAnyH_take (i := 10) (v := .agg #[.int .i64 xv, .int .i64 T]) rfl (by kernel_rfl) (by kernel_rfl) (by kernel_rfl) (fun _ _ _ h => h) (Or.inl ⟨by kernel_rfl, fun u hSw => (by go_simp)⟩) hS ?_
        try simp only [Act.put]
        have hszV := hBV.size
        refine wpAnyH_ready (rs := [11]) (by kernel_rfl) (by simp) ?_
        refine AllReadyH.cons rfl (fun K hK => ?_) AllReadyH.nil
        go_simp
        have hB2 := hBV.alloc hBV.size (.cells #[.int .i64 xv, .int .i64 T] 52)
        refine hK.out _ _ (HXS.out _ hB2) (fun hS => ?_)
        clear hK K
        try simp only [Act.put]
        refine wpAnyH_ready (rs := [12]) (by kernel_rfl) (by simp) ?_
        refine AllReadyH.cons rfl (fun K hK => ?_) AllReadyH.nil
        refine step_append_any _ rfl (.tmp 18) (.tmp 29) 26 rfl w.heap.size 52 i0 (.agg #[.int .i64 0, .int .i64 0]) 2 16 Tryd.underlying26 hi hz0 hz1 hz2 rfl (by decide) _ m _ rfl (hrow.alloc _) _ (some ⟨V.heap.size, 0, none⟩) 1 1 [.int .i64 xv, .int .i64 T] rfl (reads_two (Blk.new V 52 #[.int .i64 xv, .int .i64 T])) (by simp [Value.oneCell']) (by simp only [maxLen]; omega) (by omega) (by simp; omega) ?_
        intro v' w1 hown' hgrow _
        have hB3 := Lib.hid (hB2.grown hgrow (by simp; omega) (fun g hg => (hrow.lt g hg).1))
        have hO3 : Hid (w1.ownsRow w.heap.size 52 2 v' (m + 1) (svs Q2)) := Lib.hid (by rw [HQ.out, svs_append2]; exact hown')
        have hl3 : Hid (m + 1 = Q2.length) := Lib.hid (by rw [HQ.out, List.length_append, ← hm5]; rfl)
        refine hK.out _ _ (HXS.out _ hB3.out) (fun hS => ?_)
        clear hK K hown' hgrow hB2 hrow hBV
        try simp only [Act.put]
        refine wpAnyH_take (i := 13) (v := v') rfl (by kernel_rfl) (by kernel_rfl) (by kernel_rfl) (fun _ _ _ h => h) (Or.inl ⟨by kernel_rfl, fun u hSw => (by go_simp)⟩) hS ?_
        try simp only [Act.put]
        refine wpAnyH_done (by kernel_rfl) ?_ _
        clear hS
        go_wp2
        go_roundw
        case rel => exact ⟨k + 1, m + 1, by omega, by go_num, by rw [HQ2.out]; exact hl3.out, by rw [HQ2.out]; exact hO3.out, hB3.out⟩
        case measure => simp [intOf] <;> omega
      · obtain ⟨rfl, y2⟩ := HN2.out (by omega)
        subst y2
        clear HY2 HN2 hT
        go_wp2
        go_roundw
        case rel => exact ⟨k + 1, m, by omega, by go_num, by rw [HQ2.out]; exact hm5, by rw [HQ2.out]; exact hO, hB⟩
        case measure => simp [intOf] <;> omega
    · obtain rfl : n = k := by omega
      rw [HE.out n rfl] at hO hm5
      subst hm5
      go_wp2
      go_ret
      exact ⟨_, rfl, hO, hB⟩

end Go.Proofs.YtldleijocjohgaaDoor
