/-
  The landed take: those that are left of some, taken. No statement is proved here.
-/
import Derived.Test.YtniilfcbiliegaaZMd
namespace Go.Proofs.Ytniilfcbiliegaa
open Go.RowKit Go.Maps

theorem reads_new (w : World) (t : TypeId) (cs : Array Value) {k : Nat} (hk : cs.size = k) {g : Nat} (hg : g = w.heap.size) : Reads (w.alloc (.cells cs t)) (w.alloc (.cells cs t)).heap.size k (some ⟨g, 0, none⟩) 1 cs.toList := by
  subst hg
  refine ⟨by simp [hk], fun _ => ⟨_, rfl, by simp, fun j u hj => ?_⟩⟩
  rw [Addr.add_lit, Nat.zero_add, (Blk.new w _ _).cell j]
  simpa using hj
theorem pv_ones (l : List Pt) : ∀ u ∈ flat pv l, u.oneCell' = true := flat_all pv (fun a u hu => by
  simp only [pv, List.mem_cons, List.not_mem_nil, or_false] at hu
  rcases hu with rfl | rfl | rfl | rfl | rfl | rfl | rfl | rfl <;> rfl) l
theorem pv_flat_one (p : Pt) : (pvA p).toList = flat pv [p] := rfl
theorem grown_own {w w' : World} {base n size : Nat} {e : TypeId} {v : Value} {xs : List Value} (h : w.ownsRow base e size v n xs) {g : Nat} (hb : w.grownBy w' (some g)) (hg : g < base) : w'.ownsRow base e size v n xs := by
  refine h.kept hb ?_
  cases ho : v.ownBlock with
  | none => exact .inl rfl
  | some k => exact .inr (fun he => by have := (h.lt k ho).1; injection he with he; omega)
theorem grown_in {a w w' : World} {r : Option Nat} {g : Nat} (h : a.grownBy w (some g)) (k : w.grownBy w' r) (hr : ∀ j, r = some j → a.heap.size ≤ j) : a.grownBy w' (some g) :=
  h.andThen k fun j hj => .inl (hr j hj)
theorem heldE_inj {v u : Value} {ps : List MemPlace} (h : heldE v = some (.held u, ps)) : v = u := by
  have h1 : (some (DataW.held v, ([] : List MemPlace)) : Option (DataW Value × List MemPlace)) = some (.held u, ps) := h
  simp only [Option.some.injEq, Prod.mk.injEq, DataW.held.injEq] at h1
  exact h1.1
theorem PM.look_some {w : World} {b n : Nat} {L : List Pt} (h : PM w b n L) {i : Int} {p : Pt} (hp : kf L i = some p) (hkey : keyOf Try.prog 3 (.int .i64 i) = some (.int .i64 i)) :
    (Instr.lookup 75 (.map (some b)) (.int .i64 i) true).run Try.prog w = .ok (.tuple #[.agg (pvA p), .bool true]) w := by
  obtain ⟨D, own, _, hv⟩ := h
  obtain ⟨v, ps, hrun, hR⟩ := own.look_ok (int_keyed Try.underlying3) Try.underlying75 (part_zero w) (zp := []) rfl hkey
  rw [(hv i).2 p hp] at hR
  rw [(hv i).1, hp] at hrun
  have e := heldE_inj hR
  subst e
  exact hrun
theorem PM.look_none {w : World} {b n : Nat} {L : List Pt} (h : PM w b n L) {i : Int} (hp : kf L i = none) (hkey : keyOf Try.prog 3 (.int .i64 i) = some (.int .i64 i)) :
    (Instr.lookup 75 (.map (some b)) (.int .i64 i) true).run Try.prog w = .ok (.tuple #[.agg #[.int .i64 0, .int .i64 0, .int .u64 0, .int .u64 0, .int .u64 0, .int .i64 0, .int .u64 0, .bool false], .bool false]) w := by
  obtain ⟨D, own, _, hv⟩ := h
  obtain ⟨v, ps, hrun, hR⟩ := own.look_ok (int_keyed Try.underlying3) Try.underlying75 (part_zero w) (zp := []) rfl hkey
  rw [atKey_of_not_has (by rw [(hv i).1, hp]; rfl)] at hR
  rw [(hv i).1, hp] at hrun
  have e := heldE_inj hR
  subst e
  exact hrun
/-- what is left of L behind the first k of is -/
def leftT (L : List Pt) (is : List Int) (k : Nat) : List Pt := L.filter fun p => decide (p.1 ∉ is.take k)
theorem leftT_zero (L : List Pt) (is : List Int) : leftT L is 0 = L := by unfold leftT; simp
theorem leftT_snoc {L : List Pt} {is : List Int} {k : Nat} {x : Int} (hx : is[k]? = some x) : leftT L is (k + 1) = (leftT L is k).filter fun p => decide (p.1 ≠ x) := by
  unfold leftT
  rw [List.filter_filter, List.take_add_one, hx]
  congr 1
  funext p
  by_cases h1 : p.1 ∈ is.take k <;> by_cases h2 : p.1 = x <;> simp_all
theorem leftT_kf {L : List Pt} {is : List Int} (hN : is.Nodup) {k : Nat} {x : Int} (hx : is[k]? = some x) : kf (leftT L is k) x = kf L x := by
  unfold leftT
  rw [kf_filter (fun i => decide (i ∉ is.take k)), if_pos]
  rw [decide_eq_true_eq]
  intro h
  obtain ⟨j, hj⟩ := List.mem_iff_getElem?.1 h
  rw [List.getElem?_take] at hj
  split at hj
  · rename_i hjk
    obtain ⟨h1, e1⟩ := List.getElem?_eq_some_iff.1 hj
    obtain ⟨h2, e2⟩ := List.getElem?_eq_some_iff.1 hx
    exact (List.pairwise_iff_getElem.1 hN) j k h1 h2 hjk (e1.trans e2.symm)
  · cases hj
theorem leftT_none {L : List Pt} {is : List Int} {k : Nat} {x : Int} (hx : is[k]? = some x) (hk : kf (leftT L is k) x = none) : leftT L is (k + 1) = leftT L is k := by
  rw [leftT_snoc hx, List.filter_eq_self]
  intro p hp
  simpa using kf_none.1 hk p hp
theorem takeP_snoc {L : List Pt} {is : List Int} {k : Nat} {x : Int} (hx : is[k]? = some x) : takeP L (is.take (k + 1)) = takeP L (is.take k) ++ (match kf L x with | some p => [p] | none => []) := by
  unfold takeP
  rw [List.take_add_one, hx, List.filterMap_append]
  congr 1
  show [x].filterMap (kf L) = _
  rw [List.filterMap_cons]
  cases kf L x <;> rfl

set_option maxRecDepth 100000 in
set_option maxHeartbeats 8000000 in
theorem take_any (b m : Nat) (L : List Pt) (A : Option Addr) (n c : Nat) (is : List Int) (w : World) (hM : PM w b m L) (hI : IR w A n is) (hN : is.Nodup) (hb : ∀ x ∈ is, 0 ≤ x ∧ x ≤ 4611686018427387904) :
    Calls Try.prog 38 #[.map (some b), .slice A n c] w fun e w' => ∃ A' c' n', e = .returned (.slice A' n' c') ∧ n' = (takeP L is).length ∧ w'.ownsRow w.heap.size 99 8 (.slice A' n' c') n' (flat pv (takeP L is)) ∧
      PM w' b m (L.filter fun p => decide (p.1 ∉ is)) ∧ w.grownBy w' (some b) := by
  obtain ⟨i0, hi0, hz0, hz1, hz2⟩ := info_parts9 part_info
  have HI := Lib.hid hI
  have HL := Lib.hid hI.len
  have n9 := hI.small
  have HND := Lib.hid hN
  have HBD := Lib.hid hb
  have HBL := Lib.hid hM.lt
  have M0 : PM w b m (leftT L is 0) := by rw [leftT_zero]; exact hM
  clear hI hN hb hM
  go_enter Try.func38, Try.ntmps38
  go_wp2_with fail
  go_loopw [5, 12] (fun s i wr => ∃ k : Nat, k ≤ n ∧ i = .int .i64 (k : Int) ∧ Hid (wr.ownsRow w.heap.size 99 8 s (takeP L (is.take k)).length (flat pv (takeP L (is.take k)))) ∧ Hid (PM wr b m (leftT L is k)) ∧ Hid (w.grownBy wr (some b))) (fun _ i _ => n - (intOf i).toNat)
  case atStart => exact ⟨0, Nat.zero_le _, rfl, Lib.hid (World.ownsRow_nil _ _ _ _), Lib.hid M0, Lib.hid (World.grownBy.refl _ _)⟩
  case round =>
    obtain ⟨k, hk, rfl, HO, HM, HG⟩ := hrel
    by_cases hlt : k < n
    · obtain ⟨x, hx⟩ := elem_at (l := is) (k := k) (by rw [HL.out]; exact hlt)
      have hIr : ∃ ad, A = some ad ∧ wr.cell? (ad.add k) = some (.int .i64 x) := by
        obtain ⟨ad, e, hb1, hc⟩ := HI.out.at_ hx
        refine ⟨ad, e, ?_⟩
        have hne : some ad.block ≠ some b := by
          intro e2
          injection e2 with e2
          subst e2
          obtain ⟨es, clock, hh⟩ := M0.block
          unfold World.cell? at hc
          rw [show (ad.add k).block = ad.block from by unfold Addr.add; split <;> rfl, hh] at hc
          cases hc
        refine HG.out.cell hc ?_
        rwa [show (ad.add k).block = ad.block from by unfold Addr.add; split <;> rfl]
      obtain ⟨ad, rfl, hc⟩ := hIr
      have hkey := Lib.hid (keyi (HBD.out x (List.mem_of_getElem? hx)).1 (HBD.out x (List.mem_of_getElem? hx)).2)
      have i1 : (0 : Int) ≤ (k : Int) := by omega
      have i2 : (k : Int) < (n : Int) := by omega
      obtain ⟨A2, cc, rfl, _, _⟩ := own_reads HO.out
      have HX := Lib.hid hx
      cases hp : kf L x with
      | none =>
        have hp' : kf (leftT L is k) x = none := (leftT_kf HND.out hx).trans hp
        have hlook := HM.out.look_none hp' hkey.out
        have HE : Hid (takeP L (is.take (k + 1)) = takeP L (is.take k)) := Lib.hid (by rw [takeP_snoc hx, hp, List.append_nil])
        have HM2 : Hid (PM wr b m (leftT L is (k + 1))) := Lib.hid (by rw [leftT_none hx hp']; exact HM.out)
        clear hx hp hp'
        go_wp2_with fail
        go_roundw
        case rel => exact ⟨k + 1, by omega, by go_num, Lib.hid (by rw [HE.out]; exact HO.out.alloc _), Lib.hid (HM2.out.alloc _), Lib.hid (grown_in HG.out (World.grownBy_alloc wr _ none) (by simp))⟩
        case measure => simp [intOf] <;> omega
      | some p =>
        have hp' : kf (leftT L is k) x = some p := (leftT_kf HND.out hx).trans hp
        have hlook := HM.out.look_some hp' hkey.out
        unfold pvA at hlook
        have HE : Hid (takeP L (is.take (k + 1)) = takeP L (is.take k) ++ [p]) := Lib.hid (by rw [takeP_snoc hx, hp])
        have HLE : Hid ((takeP L (is.take k)).length ≤ 1000) := Lib.hid (Nat.le_trans (List.length_filterMap_le _ _) (by rw [List.length_take]; omega))
        have HLF := Lib.hid (leftT_snoc (L := L) hx)
        generalize hT : takeP L (is.take k) = T at *
        generalize ht : T.length = t at HO HLE ⊢
        have HTL := Lib.hid ht
        have HTK := Lib.hid hT
        have K1 := Blk.new wr 99 #[.int .i64 p.1, .int .i64 p.2.1.1, .int .u64 (p.2.1.2.1 : Int), .int .u64 (p.2.1.2.2.1 : Int), .int .u64 (p.2.1.2.2.2 : Int), .int .i64 p.1, .int .u64 (p.2.2.1 : Int), .bool p.2.2.2]
        have z0 := K1.cell 0
        have z1 := K1.cell 1
        have z2 := K1.cell 2
        have z3 := K1.cell 3
        have z4 := K1.cell 4
        have z5 := K1.cell 5
        have z6 := K1.cell 6
        have z7 := K1.cell 7
        have HS := Lib.hid (And.intro (HO.out.alloc (.cells #[.int .i64 p.1, .int .i64 p.2.1.1, .int .u64 (p.2.1.2.1 : Int), .int .u64 (p.2.1.2.2.1 : Int), .int .u64 (p.2.1.2.2.2 : Int), .int .i64 p.1, .int .u64 (p.2.2.1 : Int), .bool p.2.2.2] 99)) (And.intro (HM.out.alloc (.cells #[.int .i64 p.1, .int .i64 p.2.1.1, .int .u64 (p.2.1.2.1 : Int), .int .u64 (p.2.1.2.2.1 : Int), .int .u64 (p.2.1.2.2.2 : Int), .int .i64 p.1, .int .u64 (p.2.2.1 : Int), .bool p.2.2.2] 99)) (grown_in HG.out (World.grownBy_alloc wr (.cells #[.int .i64 p.1, .int .i64 p.2.1.1, .int .u64 (p.2.1.2.1 : Int), .int .u64 (p.2.1.2.2.1 : Int), .int .u64 (p.2.1.2.2.2 : Int), .int .i64 p.1, .int .u64 (p.2.2.1 : Int), .bool p.2.2.2] 99) none) (by simp))))
        have HSZ := Lib.hid HG.out.size
        have HLE2 : Hid (t + 1 ≤ 1001) := Lib.hid (by have := HLE.out; omega)
        clear hx hp hp' K1 ht hT
        go_wp2_with (first
          | (at_builtin
             refine wpList_append_any _ rfl (.tmp 23) (.tmp 25) 77 rfl w.heap.size 99 i0 (.agg #[.int .i64 0, .int .i64 0, .int .u64 0, .int .u64 0, .int .u64 0, .int .i64 0, .int .u64 0, .bool false]) 8 64 Try.underlying77 hi0 hz0 hz1 hz2 rfl (by decide) (.slice A2 t cc) t (flat pv T) rfl (HS.out.1.alloc _) _ (some ⟨wr.heap.size + 1, 0, none⟩) 1 1 (flat pv [p]) rfl (reads_new _ _ _ rfl (by simp)) (pv_ones _) (by have := HLE.out; simp only [maxLen]; omega) (by have := HLE.out; omega) (by have := HSZ.out; simp; omega) ?_
             intro v9 w9 own9 grow9 _
             rw [← flat_append, ← HE.out] at own9
             have M9 := (HS.out.2.1.alloc (.cells #[.int .i64 p.1, .int .i64 p.2.1.1, .int .u64 (p.2.1.2.1 : Int), .int .u64 (p.2.1.2.2.1 : Int), .int .u64 (p.2.1.2.2.2 : Int), .int .i64 p.1, .int .u64 (p.2.2.1 : Int), .bool p.2.2.2] 99)).kept grow9 (fun he => by have := (HS.out.1.lt b he.symm).1; have := HBL.out; omega)
             have G9 := grown_in (grown_in HS.out.2.2 (World.grownBy_alloc _ (.cells #[.int .i64 p.1, .int .i64 p.2.1.1, .int .u64 (p.2.1.2.1 : Int), .int .u64 (p.2.1.2.2.1 : Int), .int .u64 (p.2.1.2.2.2 : Int), .int .i64 p.1, .int .u64 (p.2.2.1 : Int), .bool p.2.2.2] 99) none) (by simp)) grow9 (fun g hg => (HS.out.1.lt g hg).1)
             obtain ⟨D, ownD, hsmD, hvD⟩ := M9
             have HD := Lib.hid (And.intro own9 (And.intro G9 (And.intro ownD (And.intro hsmD hvD))))
             clear own9 grow9 G9 ownD hsmD hvD)
          | (at_delete
             refine wpList_delete_own _ rfl _ _ 75 3 rfl 99 (int_keyed Try.underlying3) Try.underlying75 _ b m D rfl HD.out.2.2.1 _ _ rfl hkey.out ?_
             intro w5 own5 turn5
             have HM5 : Hid (PM w5 b m (leftT L is (k + 1))) := Lib.hid (by rw [HLF.out]; exact ⟨_, own5, HD.out.2.2.2.1, PM.del_view HD.out.2.2.2.2 x⟩)
             have HO5 := Lib.hid (grown_own HD.out.1 turn5.grown HBL.out)
             have HG5 := Lib.hid (HD.out.2.1.trans turn5.grown)
             clear own5 turn5))
        go_roundw
        case rel => exact ⟨k + 1, by omega, by go_num, Lib.hid (by have h := HO5.out; rw [show (takeP L (is.take (k + 1))).length = t + 1 from by rw [HE.out, List.length_append, HTL.out]; rfl]; exact h), HM5, HG5⟩
        case measure => simp [intOf] <;> omega
    · obtain rfl : k = n := by omega
      have HT : Hid (is.take k = is) := Lib.hid (List.take_of_length_le (by rw [HL.out]; exact Nat.le_refl _))
      have HTL : Hid (leftT L is k = L.filter fun p => decide (p.1 ∉ is)) := Lib.hid (by unfold leftT; rw [HT.out])
      obtain ⟨A2, cc, rfl, _, _⟩ := own_reads HO.out
      go_wp2
      go_ret
      exact ⟨A2, cc, _, rfl, by rw [HT.out], by have h := HO.out; rw [HT.out] at h ⊢; exact h, by rw [← HTL.out]; exact HM.out, HG.out⟩

end Go.Proofs.Ytniilfcbiliegaa
