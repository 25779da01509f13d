/-
  The landed gang: Stuck. No statement is proved here.
-/
import Derived.Test.YtkbgpmgnkegipaaDoorDd
import Derived.Test.YtkbgpmgnkegipaaDoorDe
import Derived.Laws.BitsAllLaws
namespace Go.Proofs.YtkbgpmgnkegipaaDoor
open Go.RowKit Go.Shelf Go.Maps

attribute [local go_sem] Oper.semAt_some

/-- the sets of some places together -/
def orN (l : List Int) (p : List Int) : Nat := p.foldl (fun a i => a ||| (l.getD i.toNat 0).toNat) 0
theorem orN_step (l : List Int) {p : List Int} {k : Nat} {i : Int} (h : p[k]? = some i) : orN l (p.take (k + 1)) = orN l (p.take k) ||| (l.getD i.toNat 0).toNat := by
  unfold orN
  rw [List.take_add_one, h, List.foldl_append]
  rfl
theorem fold_small {l : List Int} (h : ∀ x ∈ l, x < 256) : ∀ (p : List Int) (a : Nat), a < 256 → p.foldl (fun a i => a ||| (l.getD i.toNat 0).toNat) a < 256
  | [], a, ha => ha
  | i :: p, a, ha => by
    refine fold_small h p _ ?_
    have h1 : (l.getD i.toNat 0).toNat < 2 ^ 8 := by
      rw [List.getD_eq_getElem?_getD]
      cases hx : l[i.toNat]? with
      | none => simp
      | some x => have := h x (List.mem_of_getElem? hx); simp; omega
    exact Nat.or_lt_two_pow (show a < 2 ^ 8 from ha) h1
theorem orN_small {l : List Int} (h : ∀ x ∈ l, x < 256) (p : List Int) : orN l p < 256 := fold_small h p 0 (by omega)
def cntN (l : List Int) (p : List Int) : Nat := (mem ((orN l p : Nat) : Int)).length
def stuckB (l : List Int) (p : List Int) : Bool := decide (cntN l p < p.length)
def stuckL (l : List Int) : List Int := if setsB l = true then ((selL l.length).find? (stuckB l)).getD [] else []
/-- numbers that a call answers, in a row of its own -/
def IGotD (l : List Int) (w : World) (e : Ending) (w' : World) : Prop := ∃ A n c, e = .returned (.slice A n c) ∧ w'.ownsRow w.heap.size 3 1 (.slice A n c) n (vs l) ∧ Below w.heap.size w w'
theorem results_slice {fn : Func} {p : Tmp} (h : fn.results = #[.cell p 27]) (tmps : Array Value) (w : World) (g : Nat) (v : Value) (hp : tmps.getD p undef = .pointer (some ⟨g, 0, none⟩)) (hc : w.cell? ⟨g, 0, none⟩ = some v) : (results fn tmps).run Tryd.prog w = .ok v w := by
  have hp' : tmps[p]?.getD undef = .pointer (some ⟨g, 0, none⟩) := by simpa using hp
  simp [results, h, hp', asAddr, go_sem, hc]
theorem find_hit {α : Type} {f : α → Bool} {l pre : List α} {x : α} (h : (pre ++ [x]) <+: l) (hp : ∀ y ∈ pre, f y = false) (hx : f x = true) : l.find? f = some x := by
  obtain ⟨t, rfl⟩ := h
  rw [List.append_assoc, List.find?_append, List.find?_eq_none.2 (fun y hy => by rw [hp y hy]; simp)]
  simp [hx]

set_option maxRecDepth 100000 in
set_option maxHeartbeats 16000000 in
theorem stuck_any (A : Option Addr) (n c : Nat) (l : List Int) (w : World) (hG : SW w A n l) : Calls Tryd.prog 9 #[.slice A n c] w (IGotD (stuckL l) w) := by
  have HA := Lib.hid (fun (u : World) (h : Below w.heap.size w u) => areSets_any A n c l u (hG.below h))
  have HG := Lib.hid hG
  have HL := Lib.hid hG.len
  obtain ⟨K0, K1, GB⟩ := blks2 w 24 27 #[.slice A n c] #[.slice none 0 0]
  have z0 := K0.cell 0
  cases hs : setsB l with
  | false =>
    have HV : Hid (stuckL l = []) := Lib.hid (by unfold stuckL; rw [if_neg (by rw [hs]; simp)])
    rw [hs] at HA
    clear hs HG HL hG
    go_enter Tryd.func9, Tryd.ntmps9
    go_wp2_with fail
    refine (HA.out _ GB).mono ?_
    rintro e w1 ⟨rfl, rfl⟩
    have HP := Lib.hid (put1 (x := .slice none 0 0) K1 GB (by omega))
    have d0 := K1.cell 0
    have f0 := K1.frozen 0
    obtain ⟨V, hV⟩ : ∃ V, (w.alloc (.cells #[.slice A n c] 24)).alloc (.cells #[.slice none 0 0] 27) = V := ⟨_, rfl⟩
    rw [hV] at HP d0 f0 ⊢
    clear hV z0 K0 K1 GB
    go_wp2_with fail
    exact bodyPost_ret (v := .slice none 0 0) (results_slice rfl _ _ _ _ rfl (HP.out.1.cell 0)) rfl ⟨none, 0, 0, rfl, by rw [HV.out]; exact World.ownsRow_nil _ _ _ _, HP.out.2⟩
  | true =>
    have hs2 := hs
    unfold setsB at hs2
    rw [Bool.and_eq_true, decide_eq_true_eq, List.all_eq_true] at hs2
    have h256 : ∀ x ∈ l, x < 256 := fun x hx => by have := hs2.2 x hx; unfold smallB at this; simpa using this
    have hn8 : n ≤ 8 := by have := hs2.1; have := HL.out; omega
    have HN8 := Lib.hid hn8
    have HSM := Lib.hid h256
    have HV : Hid (stuckL l = ((selL n).find? (stuckB l)).getD []) := Lib.hid (by unfold stuckL; rw [if_pos hs, HL.out])
    rw [hs] at HA
    clear hs hs2 h256 hn8 hG
    refine (callsIn_wide (n := 5)).1 ?_
    refine callsIn_of_wp_marks Tryd.func9 rfl trivial ?_ rfl
    simp only [Tryd.ntmps9, List.size_toArray, List.length_cons, List.length_nil, Nat.reduceAdd, Nat.reduceSub, Array.replicate_succ, Array.replicate_zero, List.push_toArray, List.append_toArray, List.nil_append, List.cons_append]
    gi_wp2_with fail
    refine ⟨trivial, ?_⟩
    refine (callsIn_wide.2 (HA.out _ GB)).mono ?_
    rintro e w1 ⟨rfl, rfl⟩
    gi_wp2_with fail
    refine ⟨trivial, ?_⟩
    refine (sel_in (5 - 1) n _).mono ?_
    rintro e w1 ⟨rfl, rfl⟩
    have KN := Blk.new ((w.alloc (.cells #[.slice A n c] 24)).alloc (.cells #[.slice none 0 0] 27)) 3 #[.int .i64 (n : Int)]
    have hsz : ((w.alloc (.cells #[.slice A n c] 24)).alloc (.cells #[.slice none 0 0] 27)).heap.size = w.heap.size + 1 + 1 := by simp
    rw [hsz] at KN ⊢
    replace K0 := K0.alloc (.cells #[.int .i64 (n : Int)] 3)
    replace K1 := K1.alloc (.cells #[.int .i64 (n : Int)] 3)
    replace GB := GB.alloc GB.size (.cells #[.int .i64 (n : Int)] 3)
    gi_wp2_with fail
    obtain ⟨V, hV⟩ : ∃ V, ((w.alloc (.cells #[.slice A n c] 24)).alloc (.cells #[.slice none 0 0] 27)).alloc (.cells #[.int .i64 (n : Int)] 3) = V := ⟨_, rfl⟩
    rw [hV] at K0 K1 KN GB ⊢
    clear hV hsz z0 HA
    have HVS : Hid (w.heap.size + 1 + 1 < V.heap.size) := Lib.hid KN.lt
    refine rangeM rfl (by decide) (gf := 42) (lb := #[.pointer (some ⟨w.heap.size + 1 + 1, 0, none⟩)]) rfl trivial (enters_of Tryd.func42 (by kernel_rfl) rfl) (encs := fun x : Gg => #[slG x]) (fun _ => rfl)
      (M := fun pre x X => X.ownsRow V.heap.size 3 1 (slG x) x.2.1 (vs x.2.2.2) ∧ Rising n x.2.2.2 ∧ gsI (pre ++ [x]) <+: selL n) (S := fun xs => gsI xs = selL n)
      (fun pre x X l o o' h hl ho => ⟨ownsRow_putObj h.1 o' hl ho, h.2⟩)
      (fun pre X => (∀ x ∈ pre, stuckB l x.2.2.2 = false) ∧ Blk X w.heap.size 24 #[.slice A n c] ∧ Blk X (w.heap.size + 1) 27 #[.slice none 0 0] ∧ Blk X (w.heap.size + 1 + 1) 3 #[.int .i64 (n : Int)] ∧ Below w.heap.size w X)
      (fun X => ∃ x : Gg, (selL n).find? (stuckB l) = some x.2.2.2 ∧ Blk X (w.heap.size + 1) 27 #[slG x] ∧ X.ownsRow w.heap.size 3 1 (slG x) x.2.1 (vs x.2.2.2) ∧ Below w.heap.size w X)
      (fun l J Jx X hX hXs hJ hJI hY h0 => sel1_in (5 - 1) (by decide) l (w.heap.size + 1 + 1) n X.heap.size V.heap.size HN8.out hXs J Jx X rfl hJ (fun pre Y h => (hJI pre Y h).2.2.2.1) hY h0)
      (fun pre X Y h hb => ⟨h.1, h.2.1.below hb (by have := HVS.out; omega), h.2.2.1.below hb (by have := HVS.out; omega), h.2.2.2.1.below hb HVS.out, h.2.2.2.2.trans (hb.mono (by have := HVS.out; omega))⟩)
      (fun X l o o' ⟨x, h1, h2, h3, h4⟩ hl hx ho => ⟨x, h1, (World.putObj_heap_other (fun e => by subst e; unfold Blk at h2; rw [h2] at hx; injection hx with hx; subst hx; cases ho)).trans h2, ownsRow_putObj h3 o' hx ho, h4.trans (below_putObj X o' (by have := HVS.out; omega))⟩)
      ⟨fun x hx => (by cases hx), K0, K1, KN, GB⟩
      (fun x => { tmps := #[.slice A n c, .pointer (some ⟨w.heap.size, 0, none⟩), .pointer (some ⟨w.heap.size + 1, 0, none⟩), slG x, undef, undef, undef, .slice A n c, .bool true, .bool false, .slice A n c, .int .i64 (n : Int), .func (.func 42) #[] #[.pointer (some ⟨w.heap.size + 1 + 1, 0, none⟩)], slG x, undef, undef, undef, undef, undef, undef, undef, undef, undef, undef, undef, undef, undef, undef, undef, undef, undef, undef, undef], defers := [] }) ?assign ?body ?done ?stop
    case assign =>
      intro lb x W K hK
      gi_wp2
      exact hK
    case body =>
      rintro lb pre ⟨Ae, me, ce, ie⟩ W hlb ⟨hp, k0, k1, kn, hB⟩ ⟨ho, hri, hpre⟩
      dsimp only at ho hri
      have hml : ie.length = me := by
        have h := ho.1
        rw [length_vs] at h
        omega
      have hm8 : me ≤ 8 := by have := hri.len; have := hri.low; have := HN8.out; omega
      have HIR : Hid (IR W Ae me ie) := Lib.hid ⟨Reads.of_own ho, by omega⟩
      have HSW := Lib.hid (HG.out.below hB)
      have HIL := Lib.hid hml
      have HRI := Lib.hid hri
      have HPP := Lib.hid (And.intro hp hpre)
      have HOW := Lib.hid ho
      have HK1 := Lib.hid k1
      have HK0 := Lib.hid k0
      have HKN := Lib.hid kn
      have HB := Lib.hid hB
      have HLB := Lib.hid hlb
      have z0 := k0.cell 0
      unfold slG
      dsimp only
      clear hp k0 k1 kn hB ho hri hpre hml hlb
      gi_wp2_with fail
      gi_loopw [4, 16] (fun tv iv wr => ∃ k : Nat, k ≤ me ∧ tv = .int .u32 ((orN l (ie.take k) : Nat) : Int) ∧ iv = .int .i64 (k : Int) ∧ wr = W) (fun _ iv _ => me - (intOf iv).toNat)
      case atStart => exact ⟨0, by omega, rfl, rfl, rfl⟩
      case round =>
        obtain ⟨k, hk, rfl, rfl, hw⟩ := hrel
        subst hw
        by_cases hlt : k < me
        · obtain ⟨i, hi⟩ := elem_at (l := ie) (k := k) (by rw [HIL.out]; exact hlt)
          obtain ⟨ade, hade, _, c1⟩ := HIR.out.at_ hi
          subst hade
          have hi0 := HRI.out.place i (List.mem_of_getElem? hi)
          have hlow := HRI.out.low
          obtain ⟨q, hq⟩ : ∃ q : Nat, i = (q : Int) := ⟨i.toNat, by omega⟩
          subst hq
          obtain ⟨s, hs⟩ := elem_at (l := l) (k := q) (by rw [HL.out]; omega)
          obtain ⟨ad, had, _, c2⟩ := HSW.out.at_ hs
          subst had
          have hs0 := HSW.out.rng s (List.mem_of_getElem? hs)
          have hs1 := HSM.out s (List.mem_of_getElem? hs)
          obtain ⟨t, ht⟩ : ∃ t : Nat, s = (t : Int) := ⟨s.toNat, by omega⟩
          subst ht
          have hst := orN_step l hi
          rw [Int.toNat_natCast, List.getD_eq_getElem?_getD, hs, Option.getD_some, Int.toNat_natCast] at hst
          have ho1 := orN_small HSM.out (ie.take k)
          obtain ⟨o1, e1⟩ : ∃ o, orN l (ie.take k) = o := ⟨_, rfl⟩
          rw [e1] at hst ho1 ⊢
          have hor : bits .or .u32 (o1 : Int) (t : Int) = ((o1 ||| t : Nat) : Int) := u32_or_nat o1 t (by omega) (by omega)
          have HST := Lib.hid hst
          have HKN' : Hid (k + 1 ≤ me) := Lib.hid hlt
          have i1 : (0 : Int) ≤ (k : Int) := by omega
          have i2 : (k : Int) < (me : Int) := by omega
          have j1 : (0 : Int) ≤ (q : Int) := by omega
          have j2 : (q : Int) < (n : Int) := by omega
          have l1 : decide ((k : Int) < (me : Int)) = true := decide_eq_true i2
          have l1n : decide (k < me) = true := decide_eq_true hlt
          clear hlt hi hi0 hlow hs hs0 hs1 hst ho1 e1
          gi_wp2_with fail
          go_roundw
          case rel => exact ⟨k + 1, HKN'.out, by rw [HST.out], by go_num, (by first | rfl | trivial)⟩
          case measure => have := HKN'.out; simp [intOf] <;> omega
        · obtain rfl : me = k := by omega
          have l1 : decide ((me : Int) < (me : Int)) = false := decide_eq_false (by omega)
          have l1n : decide (me < me) = false := decide_eq_false (by omega)
          have e : ie.take me = ie := by rw [← HIL.out, List.take_length]
          rw [e]
          have hsm := orN_small HSM.out ie
          have HCt := Lib.hid (fun (u : World) => count_any_m ((orN l ie : Nat) : Int) u (by omega) (by omega))
          have hcn : (mem ((orN l ie : Nat) : Int)).length = cntN l ie := rfl
          rw [hcn] at HCt
          have hsb : stuckB l ie = decide (cntN l ie < me) := by unfold stuckB; rw [HIL.out]
          obtain ⟨cn, hcn2⟩ : ∃ x, cntN l ie = x := ⟨_, rfl⟩
          rw [hcn2] at HCt hsb
          have HSB := Lib.hid hsb
          clear e hsm hcn hcn2 hsb hlt hk
          gi_wp2_with fail
          refine ⟨trivial, ?_⟩
          refine (callsIn_wide.2 (HCt.out _)).mono ?_
          rintro e w3 ⟨rfl, md, rfl⟩
          have hdr : Below wr.heap.size wr (wr.drewN md) := below_drewN (Below.refl _ _) md
          by_cases hst : cn < me
          · have p1 : decide ((cn : Int) < (me : Int)) = true := decide_eq_true (by omega)
            have p1n : decide (cn < me) = true := decide_eq_true hst
            have hb1 := HSB.out
            rw [p1n] at hb1
            have hf := find_hit (f := stuckB l) (pre := gsI pre) (x := ie) (by have h := HPP.out.2; unfold gsI at h ⊢; rw [List.map_append] at h; exact h) (fun y hy => by
              unfold gsI at hy
              obtain ⟨z, hz, rfl⟩ := List.mem_map.1 hy
              exact HPP.out.1 z hz) hb1
            have HF := Lib.hid hf
            have HP := Lib.hid (put1 (x := .slice Ae me ce) (HK1.out.below hdr HK1.out.lt) (HB.out.trans (hdr.mono HB.out.size)) (by omega))
            have HO2 := Lib.hid (own_down (own_set (own_below HOW.out hdr) (g := w.heap.size + 1) (by have := HVS.out; omega) 0 (.slice Ae me ce)) (show w.heap.size ≤ V.heap.size by have := HVS.out; omega))
            have HKO : Hid (KeepsOthers wr ((wr.drewN md).setCell ⟨w.heap.size + 1, 0, none⟩ (.slice Ae me ce))) := Lib.hid (KeepsOthers.trans (B := wr.drewN md) ⟨Nat.le_refl _, fun _ _ h _ => h⟩ (KeepsOthers.setCell (wr.drewN md) ⟨w.heap.size + 1, 0, none⟩ (.slice Ae me ce)))
            have d0 := (HK1.out.below hdr HK1.out.lt).cell 0
            have f0 := (HK1.out.below hdr HK1.out.lt).frozen 0
            clear hst hb1 hf hdr
            gi_wp2_with fail
            exact ⟨HKO.out, (Ae, me, ce, ie), HF.out, HP.out.1, HO2.out, HP.out.2⟩
          · have p1 : decide ((cn : Int) < (me : Int)) = false := decide_eq_false (by omega)
            have p1n : decide (cn < me) = false := decide_eq_false hst
            have hb1 := HSB.out
            rw [p1n] at hb1
            have HI9 : Hid ((∀ x ∈ pre ++ [(Ae, me, ce, ie)], stuckB l x.2.2.2 = false) ∧ Blk (wr.drewN md) w.heap.size 24 #[.slice A n c] ∧ Blk (wr.drewN md) (w.heap.size + 1) 27 #[.slice none 0 0] ∧ Blk (wr.drewN md) (w.heap.size + 1 + 1) 3 #[.int .i64 (n : Int)] ∧ Below w.heap.size w (wr.drewN md)) := Lib.hid ⟨fun x hx => by
              rcases List.mem_append.1 hx with hx | hx
              · exact HPP.out.1 x hx
              · rw [List.mem_singleton] at hx
                rw [hx]
                exact hb1, HK0.out.below hdr HK0.out.lt, HK1.out.below hdr HK1.out.lt, HKN.out.below hdr HKN.out.lt, HB.out.trans (hdr.mono HB.out.size)⟩
            clear hst hb1 hdr
            gi_wp2_with fail
            exact ⟨⟨Nat.le_refl _, fun _ _ h _ => h⟩, ⟨Nat.le_refl _, fun _ _ _ => rfl⟩, HI9.out⟩
    case done =>
      rintro xs W hS ⟨hp, k0, k1, kn, hB⟩ hD
      have HVN : Hid (stuckL l = []) := Lib.hid (by
        rw [HV.out, List.find?_eq_none.2 (fun p hq => by
          rw [← hS] at hq
          unfold gsI at hq
          obtain ⟨z, hz, rfl⟩ := List.mem_map.1 hq
          rw [hp z hz]
          simp)]
        rfl)
      have d0 := k1.cell 0
      have f0 := k1.frozen 0
      have HP := Lib.hid (put1 (x := .slice none 0 0) k1 hB (by omega))
      have HD' := Lib.hid ((KeepsOthers.setCell W ⟨w.heap.size + 1, 0, none⟩ (.slice none 0 0)).same _ _ hD rfl)
      clear hp k0 k1 kn hB hD hS
      gi_wp2_with fail
      have hne : w.heap.size + 1 ≠ V.heap.size := by have := HVS.out; omega
      refine ⟨by simp, .inl ⟨_, _, rfl, run_takeDeferred HD'.out, ?_⟩⟩
      have HPB : Blk ((W.setCell ⟨w.heap.size + 1, 0, none⟩ (.slice none 0 0)).putObj V.heap.size (.deferred none)) (w.heap.size + 1) 27 #[.slice none 0 0] := (World.putObj_heap_other hne).trans HP.out.1
      exact ⟨_, results_slice rfl _ _ _ _ rfl (HPB.cell 0), none, 0, 0, rfl, by rw [HVN.out]; exact World.ownsRow_nil _ _ _ _, HP.out.2.trans (below_putObj _ _ (by have := HVS.out; omega))⟩
    case stop =>
      rintro W ⟨⟨Ae, me, ce, ie⟩, h1, h2, h3, h4⟩ hD
      have HVF : Hid (stuckL l = ie) := Lib.hid (by rw [HV.out, h1]; rfl)
      have HP := Lib.hid (And.intro h2 (And.intro h3 h4))
      have HD' := Lib.hid hD
      clear h1 h2 h3 h4 hD
      gi_wp2
      have hne : w.heap.size + 1 ≠ V.heap.size := by have := HVS.out; omega
      refine ⟨by simp, .inl ⟨_, _, rfl, run_takeDeferred HD'.out, ?_⟩⟩
      have HPB : Blk (W.putObj V.heap.size (.deferred none)) (w.heap.size + 1) 27 #[.slice Ae me ce] := (World.putObj_heap_other hne).trans HP.out.1
      exact ⟨_, results_slice rfl _ _ _ _ rfl (HPB.cell 0), Ae, me, ce, rfl, by rw [HVF.out]; exact ownsRow_putObj HP.out.2.1 _ HD'.out rfl, HP.out.2.2.trans (below_putObj _ _ (by have := HVS.out; omega))⟩

end Go.Proofs.YtkbgpmgnkegipaaDoor
