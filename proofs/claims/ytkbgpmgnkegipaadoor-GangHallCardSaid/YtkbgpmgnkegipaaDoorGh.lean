/-
  The landed gang: Match. No statement is proved here.
-/
import Derived.Test.YtkbgpmgnkegipaaDoorGg
namespace Go.Proofs.YtkbgpmgnkegipaaDoor
open Go.RowKit Go.Maps

set_option maxRecDepth 100000 in
set_option maxHeartbeats 4000000 in
theorem gsclone (A : Option Addr) (n c : Nat) (gs : List Gg) (w : World) (hG : GW w A n gs) (hnil : A = none → c = 0) : Calls Tryd.prog 31 #[.slice A n c] w fun e w' =>
    ∃ A' c', e = .returned (.slice A' n c') ∧ w'.ownsRow w.heap.size 27 1 (.slice A' n c') n (flat gv gs) ∧ Below w.heap.size w w' := by
  cases A with
  | some ad => exact gsclone_any ad n c gs w hG
  | none =>
    obtain rfl := hnil rfl
    have h0 : n = 0 := by
      rcases Nat.eq_zero_or_pos n with h | h
      · exact h
      · obtain ⟨_, e, _⟩ := hG.row.2 h; cases e
    subst h0
    have hg : gs = [] := List.eq_nil_of_length_eq_zero hG.len
    subst hg
    have hnil : ∀ u : World, (binOp BinOp.eql 42 (.slice none 0 0) (.slice none 0 0)).run Tryd.prog u = .ok (.bool true) u := fun u => by kernel_rfl
    clear hG
    go_enter Tryd.func31, Tryd.ntmps31
    go_wp2_with fail
    go_ret
    exact ⟨none, 0, rfl, World.ownsRow_nil _ _ _ _, Below.refl _ _⟩

theorem drop_cons {α : Type} {l : List α} {k : Nat} {x : α} (h : l[k]? = some x) : l.drop k = x :: l.drop (k + 1) := by
  obtain ⟨hk, e⟩ := List.getElem?_eq_some_iff.1 h
  rw [List.drop_eq_getElem_cons hk, e]

theorem rdx_of {w W : World} {g : Nat} {q : Option Nat} {x : Gg} (h : IR w x.1 x.2.1 x.2.2.2) (h9 : x.2.1 ≤ 100) (hb : Below w.heap.size w W) (hg : w.heap.size ≤ g) (hq : ∀ b, q = some b → w.heap.size ≤ b) : RdX g q W x := by
  refine ⟨by rw [h.row.1, Nat.mul_one], h9, fun hn => ?_⟩
  obtain ⟨ad, e, h1, h2⟩ := h.row.2 hn
  refine ⟨ad, e, Nat.lt_of_lt_of_le h1 hb.size, by omega, fun he => ?_, fun j u hj => ?_⟩
  · have := hq _ he.symm; omega
  · rw [hb.cell (p := ad.add j) (by rw [block_of_add]; exact h1)]
    exact h2 j u hj
theorem tryidx_at (lb pb g c n : Nat) (q : Option Nat) (G : List Gg) (k : Nat) (r : Gg) (w : World) (S : LS lb g c n q G w) (hP : Blk w pb 3 #[.int .i64 (k : Int)]) (hpg : pb ≠ g) (hk : k < n) (hr : RdX g q w r) (hR : ∀ x ∈ r.2.2.2, RowsG ((gsI G).set k [x])) (p : Int → Bool) (hp : ∀ x, fitsB ((gsI G).set k [x]) = p x) (j : Nat) (x : Int) (hx : r.2.2.2[j]? = some x) (h1 : p x = true) (h2 : ∀ y ∈ r.2.2.2.take j, p y = false) :
    Calls Tryd.prog 32 #[.slice r.1 r.2.1 r.2.2.1, .func (.func 33) #[] #[.pointer (some ⟨lb, 0, none⟩), .pointer (some ⟨pb, 0, none⟩)]] w fun e w' =>
      e = .returned (.int .i64 (j : Int)) ∧ w.grownBy w' (some g) ∧ RdX g q w' r ∧ ∃ ad : Addr, LS lb g c n q (G.set k (some ad, 1, 1, [x])) w' :=
  (tryidx_any lb pb g c n q G k r w S hP hpg hk hr hR).mono fun e w' h => ⟨by
    rw [h.1, firstI_yes hx (by rw [hp]; exact h1) (fun y hy => by rw [hp]; exact h2 y hy)], h.2.1, h.2.2.1, h.2.2.2 j x hx (by rw [hp]; exact h1) (fun y hy => by rw [hp]; exact h2 y hy)⟩

set_option maxRecDepth 100000 in
set_option maxHeartbeats 8000000 in
theorem match_any (A : Option Addr) (n c : Nat) (gs : List Gg) (w : World) (hG : GW w A n gs) (hnil : A = none → c = 0) :
    Calls Tryd.prog 14 #[.slice A n c] w (MatchSaid (gsI gs) w) := by
  have HA := Lib.hid (fun (u : World) (h : GW u A n gs) => arechoices_any A n c gs u h)
  have HG := Lib.hid hG
  have hlen : (gsI gs).length = n := by rw [gsI_len, hG.len]
  cases hch : choicesB (gsI gs) with
  | false =>
    rw [hch] at HA
    have HV : Hid (matchL (gsI gs) = []) := Lib.hid (by unfold matchL; rw [hch]; rfl)
    have HC := Lib.hid hch
    clear hG hlen hch hnil
    go_enter Tryd.func14, Tryd.ntmps14
    go_wp2_with fail
    refine (HA.out w HG.out).mono ?_
    rintro e w1 ⟨rfl, h1⟩
    go_wp2_with fail
    go_ret2
    exact ⟨none, 0, 0, by rw [HC.out]; rfl, by rw [HV.out]; exact World.ownsRow_nil _ _ _ _, h1⟩
  | true =>
    rw [hch] at HA
    obtain ⟨hrows, h8⟩ := choices_rows hch
    have HF := Lib.hid (fun (u : World) (h : GW u A n gs) => fits_any A n c gs u h hrows)
    have HC := Lib.hid hch
    cases hfi : fitsB (gsI gs) with
    | false =>
      rw [hfi] at HF
      have HV : Hid (matchL (gsI gs) = []) := Lib.hid (by
        unfold matchL
        rw [if_pos HC.out]
        unfold fitsB at hfi
        cases hm : matchR (gsI gs) [] with
        | none => rfl
        | some _ => rw [hm] at hfi; cases hfi)
      have HFI := Lib.hid hfi
      clear hG hlen hch hnil hrows h8 hfi
      go_enter Tryd.func14, Tryd.ntmps14
      go_wp2_with fail
      refine (HA.out w HG.out).mono ?_
      rintro e w1 ⟨rfl, h1⟩
      have HB1 := Lib.hid h1
      clear h1
      go_wp2_with fail
      refine (HF.out w1 (HG.out.below HB1.out)).mono ?_
      rintro e w2 ⟨rfl, h2⟩
      go_wp2_with fail
      go_ret2
      exact ⟨none, 0, 0, by rw [HC.out, HFI.out]; rfl, by rw [HV.out]; exact World.ownsRow_nil _ _ _ _, HB1.out.trans (h2.mono HB1.out.size)⟩
    | true =>
      rw [hfi] at HF
      have hsm : (matchR (gsI gs) []).isSome = true := hfi
      obtain ⟨M, hM⟩ := Option.isSome_iff_exists.1 hsm
      have HV : Hid (matchL (gsI gs) = M) := Lib.hid (by unfold matchL; rw [if_pos HC.out, hM]; rfl)
      have HML : Hid (M.length = n) := Lib.hid (by rw [(match_facts hM).1, hlen])
      have HMM := Lib.hid hM
      have HFI := Lib.hid hfi
      have HRW := Lib.hid hrows
      have HLE := Lib.hid hlen
      have HN8 : Hid (n ≤ 8) := Lib.hid (by omega)
      have HCL := Lib.hid (fun (u : World) (h : GW u A n gs) => gsclone A n c gs u h hnil)
      clear hG hlen hch hnil hrows h8 hfi hsm hM
      go_enter Tryd.func14, Tryd.ntmps14
      go_wp2_with fail
      refine (HA.out w HG.out).mono ?_
      rintro e w1 ⟨rfl, h1⟩
      have HB1 := Lib.hid h1
      clear h1
      go_wp2_with fail
      refine (HF.out w1 (HG.out.below HB1.out)).mono ?_
      rintro e w2 ⟨rfl, h2⟩
      have HB2 := Lib.hid (HB1.out.trans (h2.mono HB1.out.size))
      clear h2
      go_wp2_with fail
      refine (HCL.out w2 (HG.out.below HB2.out)).mono ?_
      rintro e w3 ⟨A', c', rfl, O3, h3⟩
      have HB3 := Lib.hid (HB2.out.trans (h3.mono HB2.out.size))
      have HO3 := Lib.hid (own_down O3 HB2.out.size)
      clear h3 O3
      have S0 : 0 < n → ∃ g, A' = some ⟨g, 0, none⟩ ∧ w.heap.size ≤ g ∧ LS w3.heap.size g c' n none gs (w3.alloc (.cells #[.slice A' n c'] 42)) := fun hn => by
        obtain ⟨g, cur, e, hg, hb, hc, _, hs, ht⟩ := blk_own HO3.out hn
        subst e
        have hbel := HB3.out.alloc HB3.out.size (.cells #[.slice (some ⟨g, 0, none⟩) n c'] 42)
        refine ⟨g, rfl, hg, Blk.new _ _ _, ⟨cur, hb.alloc _, by rw [hs, Nat.mul_one], by rw [Nat.mul_one] at ht; exact ht⟩, fun y hy => ?_, by have := hb.lt; omega, by simp, hc, HG.out.small, HG.out.len, fun b hb => by cases hb⟩
        exact rdx_of (HG.out.each y hy).1 (HG.out.each y hy).2 hbel hg (fun b hb => by cases hb)
      have HMR : Hid (MR (gsI gs) M n w3.heap.size 0 [] none 0 w (w3.alloc (.cells #[.slice A' n c'] 42))) := Lib.hid ⟨World.ownsRow_nil _ _ _ _, HB3.out.alloc HB3.out.size _, List.nodup_nil, rfl, ⟨M, HMM.out, rfl⟩, fun hn => by
        obtain ⟨g, e, hg, hs⟩ := S0 hn
        exact ⟨g, c', gs, hs, by simp, hg⟩, ⟨_, Blk.new _ _ _⟩⟩
      clear S0
      go_wp2_with fail
      generalize w3.alloc (.cells #[.slice A' n c'] 42) = w4 at *
      generalize w3.heap.size = lb at *
      clear HO3
      go_loopw [4, 21] (fun mv iv wr => ∃ (k : Nat) (T : List Int) (Am : Option Addr) (cm : Nat), k ≤ n ∧ mv = .slice Am k cm ∧ iv = .int .i64 (k : Int) ∧ Hid (MR (gsI gs) M n lb k T Am cm w wr)) (fun _ iv _ => n - (intOf iv).toNat)
      case atStart => exact ⟨0, [], none, 0, by omega, rfl, rfl, HMR⟩
      case round =>
        clear HMR
        obtain ⟨k, T, Am, cm, hk, rfl, rfl, HR⟩ := hrel
        by_cases hlt : k < n
        · obtain ⟨⟨A2, m, c2, is⟩, hx⟩ := elem_at (l := gs) (k := k) (by have := HG.out.len; omega)
          obtain ⟨ad, rfl, _, d0⟩ := (HG.out.below HR.out.bel).at_ hx
          have hI := HG.out.each _ (List.mem_of_getElem? hx)
          obtain ⟨g, cg, G, S1, hgs, hgw⟩ := HR.out.ls (by omega)
          have hdrop := drop_cons (gsI_at hx)
          obtain ⟨M0, hM0, hMT⟩ := HR.out.fit
          rw [hdrop] at hM0 hgs
          obtain ⟨j, x, M', rfl, hj, hp, hpre, hrest, hxT⟩ := match_next hM0
          have hset : ∀ y, fitsB ((gsI G).set k [y]) = pickB T ((gsI gs).drop (k + 1)) y := fun y => by
            have := fits_ones HR.out.nodup is ((gsI gs).drop (k + 1)) y
            rw [HR.out.len] at this
            rw [hgs]
            exact this
          have hq : ∀ b, (Value.slice Am k cm).ownBlock = some b → w.heap.size ≤ b := fun b hb => (HR.out.own.lt b hb).1
          have S2 := S1.keep (none_of_below ((Below.refl _ wr).alloc (Nat.le_refl _) (.cells #[.int .i64 (k : Int)] 3)))
          have P2 := Blk.new wr 3 #[.int .i64 (k : Int)]
          have hgl : g < wr.heap.size := by obtain ⟨_, h, _⟩ := S1.row; exact h.lt
          have hrow : RdX g (Value.slice Am k cm).ownBlock (wr.alloc (.cells #[.int .i64 (k : Int)] 3)) (A2, m, c2, is) := rdx_of hI.1 hI.2 (HR.out.bel.alloc HR.out.bel.size _) hgw hq
          have hRW : ∀ y ∈ is, RowsG ((gsI G).set k [y]) := fun y hy => by
            refine rows_set (fun row hr cc hc => ?_) (HRW.out is (List.mem_of_getElem? (gsI_at hx)) y hy)
            rw [hgs] at hr
            rcases List.mem_append.1 hr with hr | hr
            · obtain ⟨t, ht, rfl⟩ := List.mem_map.1 hr
              have hce : cc = t := by simpa using hc
              subst hce
              have htM : cc ∈ M := by rw [hMT]; exact List.mem_append_left _ ht
              obtain ⟨i, hi⟩ := List.mem_iff_getElem?.1 htM
              obtain ⟨row', g1, g2⟩ := (match_facts HMM.out).2.1 i cc hi
              exact HRW.out row' (List.mem_of_getElem? g1) cc g2
            · rw [← hdrop] at hr
              exact HRW.out row (List.mem_of_mem_drop hr) cc hc
          have HT := Lib.hid (tryidx_at lb wr.heap.size g cg n _ G k (A2, m, c2, is) _ S2 P2 (by omega) hlt hrow hRW _ hset j x hj hp hpre)
          have HX := Lib.hid (show is[j]? = some x ∧ gsI G = T.map (fun c => [c]) ++ is :: (gsI gs).drop (k + 1) ∧ matchR ((gsI gs).drop (k + 1)) (T ++ [x]) = some M' ∧ x ∉ T ∧ M = T ++ x :: M' ∧ w.heap.size ≤ g from ⟨hj, hgs, hrest, hxT, hMT, hgw⟩)
          have HNQ := Lib.hid S1.nq
          have HOW := Lib.hid (HR.out.own.alloc (.cells #[.int .i64 (k : Int)] 3))
          have HBW := Lib.hid (HR.out.bel.alloc HR.out.bel.size (.cells #[.int .i64 (k : Int)] 3))
          have i0 : (0 : Int) ≤ (k : Int) := by omega
          have i1 : (k : Int) < (n : Int) := by omega
          have j0 : (0 : Int) ≤ (j : Int) := by omega
          have hjm : j < m := by
            have h6 : j < is.length := (List.getElem?_eq_some_iff.1 hj).1
            have h7 : is.length = m := hI.1.len
            omega
          have j1 : (j : Int) < (m : Int) := by omega
          have HND := Lib.hid (And.intro HR.out.nodup HR.out.len)
          clear hx hI S1 hgs hdrop hM0 hj hp hpre hrest hxT hset hq S2 P2 hgl hrow hRW hMT hgw HR
          go_wp2_with fail
          refine HT.out.mono ?_
          rintro e w5 ⟨rfl, g5, R5, adx, S5⟩
          obtain ⟨ad2, e2, c5⟩ := reads_int R5.ir.1.row HX.out.1
          obtain rfl : A2 = some ad2 := e2
          obtain ⟨i0', hi0, hz0, hz1, hz2⟩ := info_parts9 int_info
          have O5 : w5.ownsRow w.heap.size 3 1 (.slice Am k cm) k (vs T) := HOW.out.kept g5 (.inr (fun e => HNQ.out.2 e.symm))
          have HO5 := Lib.hid O5
          have HB5 := Lib.hid (HBW.out.grown g5 HBW.out.size (fun b hb => by injection hb with hb; have := HX.out.2.2.2.2.2; omega))
          have HS5 := Lib.hid S5
          have HN8' : k ≤ 8 := by have := HN8.out; omega
          clear g5 R5 S5 O5 d0
          go_wp2_with (
            at_builtin
            refine wpList_append_any _ rfl (.tmp 29) (.tmp 34) 27 rfl w.heap.size 3 i0' (.int .i64 0) 1 8 Tryd.underlying27 hi0 hz0 hz1 hz2 rfl (by decide) (.slice Am k cm) k (vs T) rfl (HO5.out.alloc _) _ (some ⟨w5.heap.size, 0, none⟩) 1 1 (vs [x]) rfl (reads_int1 _ _ x rfl) (vs_ones _) (by simp only [maxLen]; omega) (by omega) (by have := HB5.out.size; simp; omega) ?_
            intro v9 w9 own9 grow9 hw9
            rw [show vs T ++ vs [x] = vs (T ++ [x]) by unfold vs; rw [List.map_append]] at own9
            obtain ⟨A9, c9, rfl, _, _⟩ := own_reads own9
            have HMR : Hid (MR (gsI gs) M n lb (k + 1) (T ++ [x]) A9 c9 w w9) := Lib.hid (by
              have hal := none_of_below ((Below.refl _ w5).alloc (Nat.le_refl _) (.cells #[.int .i64 x] 3))
              have S6 := (HS5.out.keep hal).turn grow9 hw9 (fun b hb => (own9.lt b hb).2)
              refine ⟨own9, (HB5.out.alloc HB5.out.size _).grown grow9 (by have := HB5.out.size; simp; omega) (fun b hb => (HO5.out.lt b hb).1), (nodup_snoc HND.out.1).2 HX.out.2.2.2.1, by rw [List.length_append, HND.out.2]; rfl, ⟨M', HX.out.2.2.1, by rw [HX.out.2.2.2.2.1]; simp⟩, fun _ => ⟨g, cg, _, S6, ?_, HX.out.2.2.2.2.2⟩, ⟨_, S6.box⟩⟩
              rw [gsI_set, HX.out.2.1, ← HND.out.2]
              exact set_ones T is _ x)
            clear own9 grow9 hw9)
          go_roundw
          case rel => exact ⟨k + 1, T ++ [x], A9, c9, by omega, rfl, by go_num, HMR⟩
          case measure => simp [intOf] <;> omega
        · obtain rfl : k = n := by omega
          have hMT : M = T := by
            obtain ⟨M0, h1, h2⟩ := HR.out.fit
            rw [← HLE.out, List.drop_length] at h1
            rw [h2, ← Option.some.inj h1, List.append_nil]
          have HE : Hid (MatchSaid (gsI gs) w (.returned (.tuple #[.slice Am k cm, .bool true])) wr) := Lib.hid ⟨Am, k, cm, by rw [HC.out, HFI.out]; rfl, by rw [HV.out, hMT]; exact HR.out.own, HR.out.bel⟩
          clear HR hMT
          go_wp2
          go_ret2
          exact HE.out

end Go.Proofs.YtkbgpmgnkegipaaDoor
