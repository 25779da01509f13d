/-
  Several texts as one.
-/
import Derived.Test.YtngbamoffjlodaaZMd
import Derived.RegionTactic
import Derived.Deep.RegionHeld3
/-
  The landed take: those that are left of some, taken. No statement is proved here.
-/
namespace Go.Proofs.Ytngbamoffjlodaa
open Go.RowKit Go.Maps

theorem reads_new (w : World) (t : TypeId) (cs : Array Value) {k : Nat} (hk : cs.size = k) {g : Nat} (hg : g = w.heap.size) : Reads (w.alloc (.cells cs t)) (w.alloc (.cells cs t)).heap.size k (some ⟨g, 0, none⟩) 1 cs.toList := by
  subst hg
  refine ⟨by simp [hk], fun _ => ⟨_, rfl, by simp, fun j u hj => ?_⟩⟩
  rw [Addr.add_lit, Nat.zero_add, (Blk.new w _ _).cell j]
  simpa using hj
theorem pv_ones (l : List Pt) : ∀ u ∈ flat pv l, u.oneCell' = true := flat_all pv (fun a u hu => by
  simp only [pv, List.mem_cons, List.not_mem_nil, or_false] at hu
  rcases hu with rfl | rfl | rfl | rfl | rfl | rfl | rfl | rfl <;> rfl) l
theorem grown_own {w w' : World} {base n size : Nat} {e : TypeId} {v : Value} {xs : List Value} (h : w.ownsRow base e size v n xs) {g : Nat} (hb : w.grownBy w' (some g)) (hg : g < base) : w'.ownsRow base e size v n xs := by
  refine h.kept hb ?_
  cases ho : v.ownBlock with
  | none => exact .inl rfl
  | some k => exact .inr (fun he => by have := (h.lt k ho).1; injection he with he; omega)
theorem grown_in {a w w' : World} {r : Option Nat} {g : Nat} (h : a.grownBy w (some g)) (k : w.grownBy w' r) (hr : ∀ j, r = some j → a.heap.size ≤ j) : a.grownBy w' (some g) :=
  h.andThen k fun j hj => .inl (hr j hj)
theorem heldE_inj {v u : Value} {ps : List MemPlace} (h : heldE v = some (.held u, ps)) : v = u := by
  have h1 : (some (DataW.held v, ([] : List MemPlace)) : Option (DataW Value × List MemPlace)) = some (.held u, ps) := h
  simp only [Option.some.injEq, Prod.mk.injEq, DataW.held.injEq] at h1
  exact h1.1
theorem PM.look_some {w : World} {b n : Nat} {L : List Pt} (h : PM w b n L) {i : Int} {p : Pt} (hp : kf L i = some p) (hkey : keyOf Try.prog 3 (.int .i64 i) = some (.int .i64 i)) :
    (Instr.lookup 75 (.map (some b)) (.int .i64 i) true).run Try.prog w = .ok (.tuple #[.agg (pvA p), .bool true]) w := by
  obtain ⟨D, own, _, hv⟩ := h
  obtain ⟨v, ps, hrun, hR⟩ := own.look_ok (int_keyed Try.underlying3) Try.underlying75 (part_zero w) (zp := []) rfl hkey
  rw [(hv i).2 p hp] at hR
  rw [(hv i).1, hp] at hrun
  have e := heldE_inj hR
  subst e
  exact hrun
theorem PM.look_none {w : World} {b n : Nat} {L : List Pt} (h : PM w b n L) {i : Int} (hp : kf L i = none) (hkey : keyOf Try.prog 3 (.int .i64 i) = some (.int .i64 i)) :
    (Instr.lookup 75 (.map (some b)) (.int .i64 i) true).run Try.prog w = .ok (.tuple #[.agg #[.int .i64 0, .int .i64 0, .int .u64 0, .int .u64 0, .int .u64 0, .int .i64 0, .int .u64 0, .bool false], .bool false]) w := by
  obtain ⟨D, own, _, hv⟩ := h
  obtain ⟨v, ps, hrun, hR⟩ := own.look_ok (int_keyed Try.underlying3) Try.underlying75 (part_zero w) (zp := []) rfl hkey
  rw [atKey_of_not_has (by rw [(hv i).1, hp]; rfl)] at hR
  rw [(hv i).1, hp] at hrun
  have e := heldE_inj hR
  subst e
  exact hrun
/-- what is left of L behind the first k of is -/
def leftT (L : List Pt) (is : List Int) (k : Nat) : List Pt := L.filter fun p => decide (p.1 ∉ is.take k)
theorem leftT_zero (L : List Pt) (is : List Int) : leftT L is 0 = L := by unfold leftT; simp
theorem leftT_snoc {L : List Pt} {is : List Int} {k : Nat} {x : Int} (hx : is[k]? = some x) : leftT L is (k + 1) = (leftT L is k).filter fun p => decide (p.1 ≠ x) := by
  unfold leftT
  rw [List.filter_filter, List.take_add_one, hx]
  congr 1
  funext p
  by_cases h1 : p.1 ∈ is.take k <;> by_cases h2 : p.1 = x <;> simp_all
theorem leftT_kf {L : List Pt} {is : List Int} (hN : is.Nodup) {k : Nat} {x : Int} (hx : is[k]? = some x) : kf (leftT L is k) x = kf L x := by
  unfold leftT
  rw [kf_filter (fun i => decide (i ∉ is.take k)), if_pos]
  rw [decide_eq_true_eq]
  intro h
  obtain ⟨j, hj⟩ := List.mem_iff_getElem?.1 h
  rw [List.getElem?_take] at hj
  split at hj
  · rename_i hjk
    obtain ⟨h1, e1⟩ := List.getElem?_eq_some_iff.1 hj
    obtain ⟨h2, e2⟩ := List.getElem?_eq_some_iff.1 hx
    exact (List.pairwise_iff_getElem.1 hN) j k h1 h2 hjk (e1.trans e2.symm)
  · cases hj
theorem leftT_none {L : List Pt} {is : List Int} {k : Nat} {x : Int} (hx : is[k]? = some x) (hk : kf (leftT L is k) x = none) : leftT L is (k + 1) = leftT L is k := by
  rw [leftT_snoc hx, List.filter_eq_self]
  intro p hp
  simpa using kf_none.1 hk p hp
theorem takeP_snoc {L : List Pt} {is : List Int} {k : Nat} {x : Int} (hx : is[k]? = some x) : takeP L (is.take (k + 1)) = takeP L (is.take k) ++ (match kf L x with | some p => [p] | none => []) := by
  unfold takeP
  rw [List.take_add_one, hx, List.filterMap_append]
  congr 1
  show [x].filterMap (kf L) = _
  rw [List.filterMap_cons]
  cases kf L x <;> rfl

set_option maxRecDepth 100000 in
set_option maxHeartbeats 8000000 in
theorem take_any (b m : Nat) (L : List Pt) (A : Option Addr) (n c : Nat) (is : List Int) (w : World) (hM : PM w b m L) (hI : IR w A n is) (hN : is.Nodup) (hb : ∀ x ∈ is, 0 ≤ x ∧ x ≤ 4611686018427387904) :
    Calls Try.prog 38 #[.map (some b), .slice A n c] w fun e w' => ∃ A' c' n', e = .returned (.slice A' n' c') ∧ n' = (takeP L is).length ∧ w'.ownsRow w.heap.size 99 8 (.slice A' n' c') n' (flat pv (takeP L is)) ∧
      PM w' b m (L.filter fun p => decide (p.1 ∉ is)) ∧ w.grownBy w' (some b) := by
  obtain ⟨i0, hi0, hz0, hz1, hz2⟩ := info_parts9 part_info
  have HI := Lib.hid hI
  have HL := Lib.hid hI.len
  have n9 := hI.small
  have HND := Lib.hid hN
  have HBD := Lib.hid hb
  have HBL := Lib.hid hM.lt
  have M0 : PM w b m (leftT L is 0) := by rw [leftT_zero]; exact hM
  clear hI hN hb hM
  go_enter Try.func38, Try.ntmps38
  go_wp2_with fail
  go_loopw [5, 12] (fun s i wr => ∃ k : Nat, k ≤ n ∧ i = .int .i64 (k : Int) ∧ Hid (wr.ownsRow w.heap.size 99 8 s (takeP L (is.take k)).length (flat pv (takeP L (is.take k)))) ∧ Hid (PM wr b m (leftT L is k)) ∧ Hid (w.grownBy wr (some b))) (fun _ i _ => n - (intOf i).toNat)
  case atStart => exact ⟨0, Nat.zero_le _, rfl, Lib.hid (World.ownsRow_nil _ _ _ _), Lib.hid M0, Lib.hid (World.grownBy.refl _ _)⟩
  case round =>
    obtain ⟨k, hk, rfl, HO, HM, HG⟩ := hrel
    by_cases hlt : k < n
    · obtain ⟨x, hx⟩ := elem_at (l := is) (k := k) (by rw [HL.out]; exact hlt)
      have hIr : ∃ ad, A = some ad ∧ wr.cell? (ad.add k) = some (.int .i64 x) := by
        obtain ⟨ad, e, hb1, hc⟩ := HI.out.at_ hx
        refine ⟨ad, e, ?_⟩
        have hne : some ad.block ≠ some b := by
          intro e2
          injection e2 with e2
          subst e2
          obtain ⟨es, clock, hh⟩ := M0.block
          unfold World.cell? at hc
          rw [show (ad.add k).block = ad.block from by unfold Addr.add; split <;> rfl, hh] at hc
          cases hc
        refine HG.out.cell hc ?_
        rwa [show (ad.add k).block = ad.block from by unfold Addr.add; split <;> rfl]
      obtain ⟨ad, rfl, hc⟩ := hIr
      have hkey := Lib.hid (keyi (HBD.out x (List.mem_of_getElem? hx)).1 (HBD.out x (List.mem_of_getElem? hx)).2)
      have i1 : (0 : Int) ≤ (k : Int) := by omega
      have i2 : (k : Int) < (n : Int) := by omega
      obtain ⟨A2, cc, rfl, _, _⟩ := own_reads HO.out
      have HX := Lib.hid hx
      cases hp : kf L x with
      | none =>
        have hp' : kf (leftT L is k) x = none := (leftT_kf HND.out hx).trans hp
        have hlook := HM.out.look_none hp' hkey.out
        have HE : Hid (takeP L (is.take (k + 1)) = takeP L (is.take k)) := Lib.hid (by rw [takeP_snoc hx, hp, List.append_nil])
        have HM2 : Hid (PM wr b m (leftT L is (k + 1))) := Lib.hid (by rw [leftT_none hx hp']; exact HM.out)
        clear hx hp hp'
        go_wp2_with fail
        go_roundw
        case rel => exact ⟨k + 1, by omega, by go_num, Lib.hid (by rw [HE.out]; exact HO.out.alloc _), Lib.hid (HM2.out.alloc _), Lib.hid (grown_in HG.out (World.grownBy_alloc wr _ none) (by simp))⟩
        case measure => simp [intOf] <;> omega
      | some p =>
        have hp' : kf (leftT L is k) x = some p := (leftT_kf HND.out hx).trans hp
        have hlook := HM.out.look_some hp' hkey.out
        unfold pvA at hlook
        have HE : Hid (takeP L (is.take (k + 1)) = takeP L (is.take k) ++ [p]) := Lib.hid (by rw [takeP_snoc hx, hp])
        have HLE : Hid ((takeP L (is.take k)).length ≤ 1000) := Lib.hid (Nat.le_trans (List.length_filterMap_le _ _) (by rw [List.length_take]; omega))
        have HLF := Lib.hid (leftT_snoc (L := L) hx)
        generalize hT : takeP L (is.take k) = T at *
        generalize ht : T.length = t at HO HLE ⊢
        have HTL := Lib.hid ht
        have HTK := Lib.hid hT
        have K1 := Blk.new wr 99 #[.int .i64 p.1, .int .i64 p.2.1.1, .int .u64 (p.2.1.2.1 : Int), .int .u64 (p.2.1.2.2.1 : Int), .int .u64 (p.2.1.2.2.2 : Int), .int .i64 p.1, .int .u64 (p.2.2.1 : Int), .bool p.2.2.2]
        have z0 := K1.cell 0
        have z1 := K1.cell 1
        have z2 := K1.cell 2
        have z3 := K1.cell 3
        have z4 := K1.cell 4
        have z5 := K1.cell 5
        have z6 := K1.cell 6
        have z7 := K1.cell 7
        have HS := Lib.hid (And.intro (HO.out.alloc (.cells #[.int .i64 p.1, .int .i64 p.2.1.1, .int .u64 (p.2.1.2.1 : Int), .int .u64 (p.2.1.2.2.1 : Int), .int .u64 (p.2.1.2.2.2 : Int), .int .i64 p.1, .int .u64 (p.2.2.1 : Int), .bool p.2.2.2] 99)) (And.intro (HM.out.alloc (.cells #[.int .i64 p.1, .int .i64 p.2.1.1, .int .u64 (p.2.1.2.1 : Int), .int .u64 (p.2.1.2.2.1 : Int), .int .u64 (p.2.1.2.2.2 : Int), .int .i64 p.1, .int .u64 (p.2.2.1 : Int), .bool p.2.2.2] 99)) (grown_in HG.out (World.grownBy_alloc wr (.cells #[.int .i64 p.1, .int .i64 p.2.1.1, .int .u64 (p.2.1.2.1 : Int), .int .u64 (p.2.1.2.2.1 : Int), .int .u64 (p.2.1.2.2.2 : Int), .int .i64 p.1, .int .u64 (p.2.2.1 : Int), .bool p.2.2.2] 99) none) (by simp))))
        have HSZ := Lib.hid HG.out.size
        have HLE2 : Hid (t + 1 ≤ 1001) := Lib.hid (by have := HLE.out; omega)
        clear hx hp hp' K1 ht hT
        go_wp2_with (first
          | (at_builtin
             refine wpList_append_any _ rfl (.tmp 23) (.tmp 25) 77 rfl w.heap.size 99 i0 (.agg #[.int .i64 0, .int .i64 0, .int .u64 0, .int .u64 0, .int .u64 0, .int .i64 0, .int .u64 0, .bool false]) 8 64 Try.underlying77 hi0 hz0 hz1 hz2 rfl (by decide) (.slice A2 t cc) t (flat pv T) rfl (HS.out.1.alloc _) _ (some ⟨wr.heap.size + 1, 0, none⟩) 1 1 (flat pv [p]) rfl (reads_new _ _ _ rfl (by simp)) (pv_ones _) (by have := HLE.out; simp only [maxLen]; omega) (by have := HLE.out; omega) (by have := HSZ.out; simp; omega) ?_
             intro v9 w9 own9 grow9 _
             rw [← flat_append, ← HE.out] at own9
             have M9 := (HS.out.2.1.alloc (.cells #[.int .i64 p.1, .int .i64 p.2.1.1, .int .u64 (p.2.1.2.1 : Int), .int .u64 (p.2.1.2.2.1 : Int), .int .u64 (p.2.1.2.2.2 : Int), .int .i64 p.1, .int .u64 (p.2.2.1 : Int), .bool p.2.2.2] 99)).kept grow9 (fun he => by have := (HS.out.1.lt b he.symm).1; have := HBL.out; omega)
             have G9 := grown_in (grown_in HS.out.2.2 (World.grownBy_alloc _ (.cells #[.int .i64 p.1, .int .i64 p.2.1.1, .int .u64 (p.2.1.2.1 : Int), .int .u64 (p.2.1.2.2.1 : Int), .int .u64 (p.2.1.2.2.2 : Int), .int .i64 p.1, .int .u64 (p.2.2.1 : Int), .bool p.2.2.2] 99) none) (by simp)) grow9 (fun g hg => (HS.out.1.lt g hg).1)
             obtain ⟨D, ownD, hsmD, hvD⟩ := M9
             have HD := Lib.hid (And.intro own9 (And.intro G9 (And.intro ownD (And.intro hsmD hvD))))
             clear own9 grow9 G9 ownD hsmD hvD)
          | (at_delete
             refine wpList_delete_own _ rfl _ _ 75 3 rfl 99 (int_keyed Try.underlying3) Try.underlying75 _ b m D rfl HD.out.2.2.1 _ _ rfl hkey.out ?_
             intro w5 own5 turn5
             have HM5 : Hid (PM w5 b m (leftT L is (k + 1))) := Lib.hid (by rw [HLF.out]; exact ⟨_, own5, HD.out.2.2.2.1, PM.del_view HD.out.2.2.2.2 x⟩)
             have HO5 := Lib.hid (grown_own HD.out.1 turn5.grown HBL.out)
             have HG5 := Lib.hid (HD.out.2.1.trans turn5.grown)
             clear own5 turn5))
        go_roundw
        case rel => exact ⟨k + 1, by omega, by go_num, Lib.hid (by have h := HO5.out; rw [show (takeP L (is.take (k + 1))).length = t + 1 from by rw [HE.out, List.length_append, HTL.out]; rfl]; exact h), HM5, HG5⟩
        case measure => simp [intOf] <;> omega
    · obtain rfl : k = n := by omega
      have HT : Hid (is.take k = is) := Lib.hid (List.take_of_length_le (by rw [HL.out]; exact Nat.le_refl _))
      have HTL : Hid (leftT L is k = L.filter fun p => decide (p.1 ∉ is)) := Lib.hid (by unfold leftT; rw [HT.out])
      obtain ⟨A2, cc, rfl, _, _⟩ := own_reads HO.out
      go_wp2
      go_ret
      exact ⟨A2, cc, _, rfl, by rw [HT.out], by have h := HO.out; rw [HT.out] at h ⊢; exact h, by rw [← HTL.out]; exact HM.out, HG.out⟩

end Go.Proofs.Ytngbamoffjlodaa
/-
  The landed joined: the entity of some. No statement is proved here.
-/
namespace Go.Proofs.Ytngbamoffjlodaa
open Go.RowKit Go.Maps

theorem own_other {V W : World} {base e s n : Nat} {v v1 : Value} {xs : List Value} (h : V.ownsRow base e s v n xs) (hg : V.grownBy W v1.ownBlock) (hne : ∀ k k', v.ownBlock = some k → v1.ownBlock = some k' → k ≠ k') : W.ownsRow base e s v n xs := by
  refine h.kept hg ?_
  cases ho : v.ownBlock with
  | none => exact .inl rfl
  | some k => exact .inr (fun he => hne k k ho he.symm rfl)
theorem ne_other {V : World} {base e s n : Nat} {v v1 v2 : Value} {xs : List Value} (h : V.ownsRow base e s v n xs) (hne : ∀ k k', v.ownBlock = some k → v1.ownBlock = some k' → k ≠ k')
    (hw : v2.ownBlock = v1.ownBlock ∨ v2.ownBlock = some V.heap.size) : ∀ k k', v.ownBlock = some k → v2.ownBlock = some k' → k ≠ k' := by
  intro k k' hk hk'
  rcases hw with e | e
  · rw [e] at hk'; exact hne k k' hk hk'
  · rw [e] at hk'
    injection hk' with hk'
    have := (h.lt k hk).2
    omega
theorem Blk.own {w w' : World} {g : Nat} {t : TypeId} {cs : Array Value} {base e s n : Nat} {v : Value} {xs : List Value} (h : Blk w g t cs) (ho : w.ownsRow base e s v n xs) (hg : w.grownBy w' v.ownBlock) (hb : g < base) : Blk w' g t cs :=
  h.grown hg (fun he => by have := (ho.lt g he.symm).1; omega)
/-- an entity that is being joined -/
structure JS (w wr : World) (ps : List Pt) (k : Nat) (Am : Option Addr) (cm : Nat) (s : Value) : Prop where
  blk : Blk wr (w.heap.size + 1) 47 #[.slice Am k cm, .int .u64 0, .int .u64 0, .int .u64 0, .int .u64 (ordP (ps.take k) : Int), .bool (freshP (ps.take k))]
  ms : wr.ownsRow (w.heap.size + 1 + 1) 3 1 (.slice Am k cm) k (vs (idsP (ps.take k)))
  ts : wr.ownsRow (w.heap.size + 1 + 1) 45 3 s k (fvs (timesP (ps.take k)))
  ne : ∀ j j', s.ownBlock = some j → (Value.slice Am k cm).ownBlock = some j' → j ≠ j'
  res : Blk wr w.heap.size 47 #[.slice none 0 0, .int .u64 0, .int .u64 0, .int .u64 0, .int .u64 0, .bool false]
  below : Below w.heap.size w wr
theorem ordP_snoc {ps : List Pt} {k : Nat} {p : Pt} (h : ps[k]? = some p) : ordP (ps.take (k + 1)) = min (ordP (ps.take k)) p.2.2.1 := by
  unfold ordP
  rw [List.take_add_one, h, List.foldl_append]
  rfl
theorem freshP_snoc {ps : List Pt} {k : Nat} {p : Pt} (h : ps[k]? = some p) : freshP (ps.take (k + 1)) = (freshP (ps.take k) && p.2.2.2) := by
  unfold freshP
  rw [List.take_add_one, h, List.all_append]
  simp
theorem idsP_snoc {ps : List Pt} {k : Nat} {p : Pt} (h : ps[k]? = some p) : idsP (ps.take (k + 1)) = idsP (ps.take k) ++ [p.1] := by
  unfold idsP
  rw [List.take_add_one, h, List.map_append]
  rfl
theorem timesP_snoc {ps : List Pt} {k : Nat} {p : Pt} (h : ps[k]? = some p) : timesP (ps.take (k + 1)) = timesP (ps.take k) ++ [p.2.1.2] := by
  unfold timesP
  rw [List.take_add_one, h, List.map_append]
  rfl
/-- a row of parts that lies somewhere -/
structure PR (w : World) (A : Option Addr) (n : Nat) (ps : List Pt) : Prop where
  row : Reads w w.heap.size 8 A n (flat pv ps)
  small : n ≤ 100
theorem PR.len {w : World} {A : Option Addr} {n : Nat} {ps : List Pt} (h : PR w A n ps) : ps.length = n := by
  have h1 := h.row.1
  rw [length_flat pv length_pv] at h1
  omega
theorem PR.below {w w' : World} {A : Option Addr} {n : Nat} {ps : List Pt} (h : PR w A n ps) (hb : Below w.heap.size w w') : PR w' A n ps := ⟨(h.row.below hb).more hb.size, h.small⟩
theorem PR.at_ {w : World} {A : Option Addr} {n : Nat} {ps : List Pt} (h : PR w A n ps) {k : Nat} {i e : Int} {a b x o : Nat} {f : Bool} (hx : ps[k]? = some (i, (e, a, b, x), o, f)) :
    ∃ ad, A = some ad ∧ ad.block < w.heap.size ∧ w.cell? (ad.add (k * 8)) = some (.int .i64 i) ∧ w.cell? ⟨(ad.add (k * 8)).block, (ad.add (k * 8)).off + 1, none⟩ = some (.int .i64 e) ∧
      w.cell? ⟨(ad.add (k * 8)).block, (ad.add (k * 8)).off + 2, none⟩ = some (.int .u64 (a : Int)) ∧ w.cell? ⟨(ad.add (k * 8)).block, (ad.add (k * 8)).off + 3, none⟩ = some (.int .u64 (b : Int)) ∧
      w.cell? ⟨(ad.add (k * 8)).block, (ad.add (k * 8)).off + 4, none⟩ = some (.int .u64 (x : Int)) ∧ w.cell? ⟨(ad.add (k * 8)).block, (ad.add (k * 8)).off + 5, none⟩ = some (.int .i64 i) ∧
      w.cell? ⟨(ad.add (k * 8)).block, (ad.add (k * 8)).off + 6, none⟩ = some (.int .u64 (o : Int)) ∧ w.cell? ⟨(ad.add (k * 8)).block, (ad.add (k * 8)).off + 7, none⟩ = some (.bool f) := by
  obtain ⟨ad, e, hb, hc⟩ := h.row.elem pv length_pv hx (by omega)
  have s0 := hc 0 _ rfl
  have s1 := hc 1 _ rfl
  have s2 := hc 2 _ rfl
  have s3 := hc 3 _ rfl
  have s4 := hc 4 _ rfl
  have s5 := hc 5 _ rfl
  have s6 := hc 6 _ rfl
  have s7 := hc 7 _ rfl
  rw [Nat.add_zero] at s0
  rw [add_past ad (k * 8) 0] at s1
  rw [add_past ad (k * 8) 1] at s2
  rw [add_past ad (k * 8) 2] at s3
  rw [add_past ad (k * 8) 3] at s4
  rw [add_past ad (k * 8) 4] at s5
  rw [add_past ad (k * 8) 5] at s6
  rw [add_past ad (k * 8) 6] at s7
  exact ⟨ad, e, hb, s0, s1, s2, s3, s4, s5, s6, s7⟩

theorem js_end {w w1 : World} {ps : List Pt} {k : Nat} {A : Option Addr} {c : Nat} {v : Value} {O o : Nat} {F : Bool} (g : Bool)
    (KB : Blk w1 (w.heap.size + 1) 47 #[.slice A (k + 1) c, .int .u64 0, .int .u64 0, .int .u64 0, .int .u64 (O : Int), .bool F])
    (MS : w1.ownsRow (w.heap.size + 1 + 1) 3 1 (.slice A (k + 1) c) (k + 1) (vs (idsP (ps.take (k + 1)))))
    (TS : w1.ownsRow (w.heap.size + 1 + 1) 45 3 v (k + 1) (fvs (timesP (ps.take (k + 1)))))
    (RS : Blk w1 w.heap.size 47 #[.slice none 0 0, .int .u64 0, .int .u64 0, .int .u64 0, .int .u64 0, .bool false])
    (BL : Below w.heap.size w w1) (NE : ∀ j j', (Value.slice A (k + 1) c).ownBlock = some j → v.ownBlock = some j' → j ≠ j')
    (hO : ordP (ps.take (k + 1)) = min O o) (hF : freshP (ps.take (k + 1)) = g) :
    JS w ((w1.setCell ⟨w.heap.size + 1, 4, none⟩ (.int .u64 (min (O : Int) (o : Int)))).setCell ⟨w.heap.size + 1, 5, none⟩ (.bool g)) ps (k + 1) A c v := by
  have e : (min (O : Int) (o : Int)) = ((min O o : Nat) : Int) := by omega
  rw [e]
  refine ⟨?_, own_set (own_set MS (g := w.heap.size + 1) (by omega) 4 _) (g := w.heap.size + 1) (by omega) 5 _, own_set (own_set TS (g := w.heap.size + 1) (by omega) 4 _) (g := w.heap.size + 1) (by omega) 5 _, fun j j' hj hj' => (NE j' j hj' hj).symm, ?_, ?_⟩
  · have := (KB.set_ 4 (.int .u64 ((min O o : Nat) : Int))).set_ 5 (.bool g)
    rw [hO, hF]
    simpa using this
  · exact (RS.far (p := ⟨w.heap.size + 1, 4, none⟩) (by show w.heap.size ≠ w.heap.size + 1; omega) _).far (p := ⟨w.heap.size + 1, 5, none⟩) (by show w.heap.size ≠ w.heap.size + 1; omega) _
  · exact (BL.setCell (p := ⟨w.heap.size + 1, 4, none⟩) (by show w.heap.size ≤ w.heap.size + 1; omega) _).setCell (p := ⟨w.heap.size + 1, 5, none⟩) (by show w.heap.size ≤ w.heap.size + 1; omega) _

/-- the result's last stores -/
theorem put6 {w w1 : World} {g b : Nat} {t : TypeId} {p1 p2 p3 p4 p5 p6 x y z p q r : Value} (K : Blk w1 g t #[p1, p2, p3, p4, p5, p6]) (B : Below b w w1) (hg : b ≤ g) :
    Blk ((((((w1.setCell ⟨g, 0, none⟩ x).setCell ⟨g, 1, none⟩ y).setCell ⟨g, 2, none⟩ z).setCell ⟨g, 3, none⟩ p).setCell ⟨g, 4, none⟩ q).setCell ⟨g, 5, none⟩ r) g t #[x, y, z, p, q, r] ∧
    Below b w ((((((w1.setCell ⟨g, 0, none⟩ x).setCell ⟨g, 1, none⟩ y).setCell ⟨g, 2, none⟩ z).setCell ⟨g, 3, none⟩ p).setCell ⟨g, 4, none⟩ q).setCell ⟨g, 5, none⟩ r) := by
  refine ⟨?_, (((((B.setCell (p := ⟨g, 0, none⟩) hg x).setCell (p := ⟨g, 1, none⟩) hg y).setCell (p := ⟨g, 2, none⟩) hg z).setCell (p := ⟨g, 3, none⟩) hg p).setCell (p := ⟨g, 4, none⟩) hg q).setCell (p := ⟨g, 5, none⟩) hg r⟩
  have := (((((K.set_ 0 x).set_ 1 y).set_ 2 z).set_ 3 p).set_ 4 q).set_ 5 r
  simpa using this

set_option maxRecDepth 100000 in
set_option maxHeartbeats 16000000 in
theorem joined_any (A : Option Addr) (n c : Nat) (ps : List Pt) (w : World) (hP : PR w A n ps) (h0 : 0 < n) (hr : allB (timesP ps) = true) (hs : Small (timesP ps)) :
    Calls Try.prog 39 #[.slice A n c] w fun e w' => ∃ Am cm, e = .returned (.agg (agE Am n cm (tmaxP ps).1 (tmaxP ps).2.1 (tmaxP ps).2.2 (ordP ps) (freshP ps))) ∧
      w'.ownsRow w.heap.size 3 1 (.slice Am n cm) n (vs (idsP ps)) ∧ Below w.heap.size w w' := by
  obtain ⟨i0, hi0, hz0, hz1, hz2⟩ := info_parts9 int_info
  obtain ⟨i1, hi1, hy0, hy1, hy2⟩ := info_parts9 frac_info
  have HP := Lib.hid hP
  have HL := Lib.hid hP.len
  have n9 := hP.small
  obtain ⟨K0, K1, GB⟩ := blks2 w 47 47 #[.slice none 0 0, .int .u64 0, .int .u64 0, .int .u64 0, .int .u64 0, .bool false] #[.slice none 0 0, .int .u64 0, .int .u64 0, .int .u64 0, .int .u64 4611686018427387904, .bool true]
  clear hP
  go_enter Try.func39, Try.ntmps39
  go_wp2_with fail
  generalize hV : (w.alloc _).alloc _ = V at K0 K1 GB ⊢
  clear hV
  go_loopw [4, 12] (fun s i wr => ∃ (k : Nat) (Am : Option Addr) (cm : Nat), k ≤ n ∧ i = .int .i64 (k : Int) ∧ Hid (JS w wr ps k Am cm s)) (fun _ i _ => n - (intOf i).toNat)
  case atStart => exact ⟨0, none, 0, Nat.zero_le _, rfl, Lib.hid ⟨K1, World.ownsRow_nil _ _ _ _, World.ownsRow_nil _ _ _ _, by simp [Value.ownBlock], K0, GB⟩⟩
  case round =>
    obtain ⟨k, Am, cm, hk, rfl, HJ⟩ := hrel
    by_cases hlt : k < n
    · obtain ⟨⟨i, ⟨e, a, b, x⟩, o, f⟩, hx⟩ := elem_at (l := ps) (k := k) (by rw [HL.out]; exact hlt)
      obtain ⟨A2, cc, rfl, _, _⟩ := own_reads HJ.out.ts
      obtain ⟨ad, rfl, hb, c0, c1, c2, c3, c4, c5, c6, c7⟩ := (HP.out.below HJ.out.below).at_ hx
      have HO := Lib.hid (ordP_snoc hx)
      have HF := Lib.hid (freshP_snoc hx)
      have HI := Lib.hid (idsP_snoc hx)
      have HT := Lib.hid (timesP_snoc hx)
      obtain ⟨O, hO⟩ : ∃ O, ordP (ps.take k) = O := ⟨_, rfl⟩
      obtain ⟨F, hF⟩ : ∃ F, freshP (ps.take k) = F := ⟨_, rfl⟩
      rw [hO] at HO
      rw [hF] at HF
      obtain ⟨KB, MS, TS, NE, RS, BL⟩ := HJ.out
      rw [hO, hF] at KB
      have KD := Blk.new wr 99 #[.int .i64 i, .int .i64 e, .int .u64 (a : Int), .int .u64 (b : Int), .int .u64 (x : Int), .int .i64 i, .int .u64 (o : Int), .bool f]
      have d0 := KD.cell 0
      have d2 := KD.cell 2
      have d3 := KD.cell 3
      have d4 := KD.cell 4
      have d6 := KD.cell 6
      have d7 := KD.cell 7
      have z0 := (KB.alloc (.cells #[.int .i64 i, .int .i64 e, .int .u64 (a : Int), .int .u64 (b : Int), .int .u64 (x : Int), .int .i64 i, .int .u64 (o : Int), .bool f] 99)).cell 0
      have HS := Lib.hid (And.intro KB (And.intro KD (And.intro MS (And.intro TS (And.intro RS (And.intro BL NE))))))
      have HSZ : Hid (w.heap.size + 1 + 1 ≤ wr.heap.size) := Lib.hid (by have := KB.lt; omega)
      have j0 : (0 : Int) ≤ (k : Int) := by omega
      have j1 : (k : Int) < (n : Int) := by omega
      clear KB KD MS TS NE RS BL HJ hx hb hO hF
      go_wp2_with (first
        | (at_builtin
           refine wpList_append_any _ rfl (.tmp 17) (.tmp 21) 40 rfl (w.heap.size + 1 + 1) 3 i0 (.int .i64 0) 1 8 Try.underlying40 hi0 hz0 hz1 hz2 rfl (by decide) (.slice Am k cm) k (vs (idsP (ps.take k))) rfl ((HS.out.2.2.1.alloc (.cells #[.int .i64 i, .int .i64 e, .int .u64 (a : Int), .int .u64 (b : Int), .int .u64 (x : Int), .int .i64 i, .int .u64 (o : Int), .bool f] 99)).alloc _) _ (some ⟨wr.heap.size + 1, 0, none⟩) 1 1 (vs [i]) rfl (reads_int1 _ _ i (by simp)) (vs_ones _) (by simp only [maxLen]; omega) (by omega) (by have := HSZ.out; simp; omega) ?_
           intro v9 w9 own9 grow9 ne9
           obtain ⟨KB, KD, MS, TS, RS, BL, NE⟩ := HS.out
           have TS9 := own_other ((TS.alloc (.cells #[.int .i64 i, .int .i64 e, .int .u64 (a : Int), .int .u64 (b : Int), .int .u64 (x : Int), .int .i64 i, .int .u64 (o : Int), .bool f] 99)).alloc (.cells #[.int .i64 i] 3)) grow9 NE
           have NE9 := ne_other ((TS.alloc (.cells #[.int .i64 i, .int .i64 e, .int .u64 (a : Int), .int .u64 (b : Int), .int .u64 (x : Int), .int .i64 i, .int .u64 (o : Int), .bool f] 99)).alloc (.cells #[.int .i64 i] 3)) NE ne9
           have KB9 := ((KB.alloc (.cells #[.int .i64 i, .int .i64 e, .int .u64 (a : Int), .int .u64 (b : Int), .int .u64 (x : Int), .int .i64 i, .int .u64 (o : Int), .bool f] 99)).alloc (.cells #[.int .i64 i] 3)).own ((MS.alloc (.cells #[.int .i64 i, .int .i64 e, .int .u64 (a : Int), .int .u64 (b : Int), .int .u64 (x : Int), .int .i64 i, .int .u64 (o : Int), .bool f] 99)).alloc (.cells #[.int .i64 i] 3)) grow9 (by omega)
           have RS9 := ((RS.alloc (.cells #[.int .i64 i, .int .i64 e, .int .u64 (a : Int), .int .u64 (b : Int), .int .u64 (x : Int), .int .i64 i, .int .u64 (o : Int), .bool f] 99)).alloc (.cells #[.int .i64 i] 3)).own ((MS.alloc (.cells #[.int .i64 i, .int .i64 e, .int .u64 (a : Int), .int .u64 (b : Int), .int .u64 (x : Int), .int .i64 i, .int .u64 (o : Int), .bool f] 99)).alloc (.cells #[.int .i64 i] 3)) grow9 (by omega)
           have KD9 := (KD.alloc (.cells #[.int .i64 i] 3)).grown grow9 (fun he => by have := (MS.lt _ he.symm).2; omega)
           have B1 := BL.alloc BL.size (.cells #[.int .i64 i, .int .i64 e, .int .u64 (a : Int), .int .u64 (b : Int), .int .u64 (x : Int), .int .i64 i, .int .u64 (o : Int), .bool f] 99)
           have BL9 := (B1.alloc B1.size (.cells #[.int .i64 i] 3)).grown grow9 (B1.alloc B1.size (.cells #[.int .i64 i] 3)).size (fun g hg => by have := (MS.lt g hg).1; omega)
           have SZ9 := grow9.size
           rw [← vs_append, ← HI.out] at own9
           obtain ⟨A9, c9, rfl, _, _⟩ := own_reads own9
           have KBY : Blk (w9.setCell ⟨w.heap.size + 1, 0, none⟩ (.slice A9 (k + 1) c9)) (w.heap.size + 1) 47 #[.slice A9 (k + 1) c9, .int .u64 0, .int .u64 0, .int .u64 0, .int .u64 (O : Int), .bool F] := by have := KB9.set_ 0 (.slice A9 (k + 1) c9); simpa using this
           have KDY := KD9.far (p := ⟨w.heap.size + 1, 0, none⟩) (by have := HSZ.out; show wr.heap.size ≠ w.heap.size + 1; omega) (.slice A9 (k + 1) c9)
           have RSY := RS9.far (p := ⟨w.heap.size + 1, 0, none⟩) (by show w.heap.size ≠ w.heap.size + 1; omega) (.slice A9 (k + 1) c9)
           have TSY := own_set TS9 (g := w.heap.size + 1) (by omega) 0 (.slice A9 (k + 1) c9)
           have OWY := own_set own9 (g := w.heap.size + 1) (by omega) 0 (.slice A9 (k + 1) c9)
           have BLY := BL9.setCell (p := ⟨w.heap.size + 1, 0, none⟩) (by show w.heap.size ≤ w.heap.size + 1; omega) (.slice A9 (k + 1) c9)
           have k0 := KB9.cell 0
           have f0 := KB9.frozen 0
           have e2 := KDY.cell 2
           have e3 := KDY.cell 3
           have e4 := KDY.cell 4
           have HY := Lib.hid (And.intro KBY (And.intro KDY (And.intro OWY (And.intro TSY (And.intro RSY (And.intro BLY NE9))))))
           have HSY : Hid (w.heap.size + 1 + 1 ≤ w9.heap.size) := Lib.hid (by have := HSZ.out; simp at SZ9; omega)
           clear KB KD MS TS RS BL NE TS9 NE9 KB9 RS9 KD9 B1 BL9 SZ9 own9 grow9 ne9 KBY KDY RSY TSY OWY BLY)
        | (at_builtin
           refine wpList_append_any _ rfl (.tmp 24) (.tmp 28) 101 rfl (w.heap.size + 1 + 1) 45 i1 (.agg #[.int .u64 0, .int .u64 0, .int .u64 0]) 3 24 Try.underlying101 hi1 hy0 hy1 hy2 rfl (by decide) (.slice A2 k cc) k (fvs (timesP (ps.take k))) rfl (HY.out.2.2.2.1.alloc _) _ (some ⟨w9.heap.size, 0, none⟩) 1 1 (fvs [(a, b, x)]) rfl (reads_frac1 _ a b x (by simp)) (fvs_ones _) (by simp only [maxLen]; omega) (by omega) (by have := HSY.out; simp; omega) ?_
           intro v10 w10 own10 grow10 ne10
           obtain ⟨KB, KD, MS, TS, RS, BL, NE⟩ := HY.out
           have MS10 := own_other (MS.alloc (.cells #[.int .u64 (a : Int), .int .u64 (b : Int), .int .u64 (x : Int)] 45)) grow10 (fun j j' hj hj' => (NE j' j hj' hj).symm)
           have NE10 := ne_other (MS.alloc (.cells #[.int .u64 (a : Int), .int .u64 (b : Int), .int .u64 (x : Int)] 45)) (fun j j' hj hj' => (NE j' j hj' hj).symm) ne10
           have KB10 := (KB.alloc (.cells #[.int .u64 (a : Int), .int .u64 (b : Int), .int .u64 (x : Int)] 45)).own (TS.alloc (.cells #[.int .u64 (a : Int), .int .u64 (b : Int), .int .u64 (x : Int)] 45)) grow10 (by omega)
           have RS10 := (RS.alloc (.cells #[.int .u64 (a : Int), .int .u64 (b : Int), .int .u64 (x : Int)] 45)).own (TS.alloc (.cells #[.int .u64 (a : Int), .int .u64 (b : Int), .int .u64 (x : Int)] 45)) grow10 (by omega)
           have KD10 := (KD.alloc (.cells #[.int .u64 (a : Int), .int .u64 (b : Int), .int .u64 (x : Int)] 45)).grown grow10 (fun he => by have := (HS.out.2.2.2.1.lt _ he.symm).2; omega)
           have BL10 := (BL.alloc BL.size (.cells #[.int .u64 (a : Int), .int .u64 (b : Int), .int .u64 (x : Int)] 45)).grown grow10 (BL.alloc BL.size (.cells #[.int .u64 (a : Int), .int .u64 (b : Int), .int .u64 (x : Int)] 45)).size (fun g hg => by have := (TS.lt g hg).1; omega)
           rw [← fvs_append, ← HT.out] at own10
           have k4 := KB10.cell 4
           have f4 := KB10.frozen 4
           have k5 := KB10.cell 5
           have f5 := KB10.frozen 5
           have g6 := KD10.cell 6
           have g7 := KD10.cell 7
           have HZ := Lib.hid (And.intro KB10 (And.intro KD10 (And.intro MS10 (And.intro own10 (And.intro RS10 (And.intro BL10 NE10))))))
           clear KB KD MS TS RS BL NE MS10 NE10 KB10 RS10 KD10 BL10 own10 grow10 ne10))
      all_goals go_roundw
      all_goals first
        | refine ⟨k + 1, A9, c9, by omega, by go_num, Lib.hid (js_end _ HZ.out.1 HZ.out.2.2.1 HZ.out.2.2.2.1 HZ.out.2.2.2.2.1 HZ.out.2.2.2.2.2.1 HZ.out.2.2.2.2.2.2 HO.out (by rw [HF.out]; simp_all))⟩
        | (simp [intOf] <;> omega)
    · obtain rfl : k = n := by omega
      have HT : Hid (ps.take k = ps) := Lib.hid (List.take_of_length_le (by rw [HL.out]; exact Nat.le_refl _))
      obtain ⟨KB, MS, TS, NE, RS, BL⟩ := HJ.out
      rw [HT.out] at KB MS TS
      obtain ⟨A2, cc, rfl, _, _⟩ := own_reads TS
      have hlt2 : (timesP ps).length = k := by unfold timesP; rw [List.length_map, HL.out]
      obtain ⟨t1, t2, t3, hk⟩ := topI_at (by omega) hr
      have hik := (List.getElem?_eq_some_iff.1 hk).1
      have HMx : Hid (tmaxP ps = (t1, t2, t3)) := Lib.hid (by unfold tmaxP; rw [List.getD_eq_getElem?_getD, hk]; rfl)
      have HMo := Lib.hid (fun (u : World) (h : Reads u u.heap.size 3 A2 k (fvs (timesP ps))) => most_any A2 k cc (timesP ps) u hlt2 n9 hs h.frow (topI (timesP ps)) true (found_some (by omega) hr))
      generalize topI (timesP ps) = m at hk hik HMo
      rw [hlt2] at hik
      have j0 : (0 : Int) ≤ (m : Int) := by omega
      have j1 : (m : Int) < (k : Int) := by omega
      have HS := Lib.hid (And.intro KB (And.intro MS (And.intro TS (And.intro RS (And.intro BL NE)))))
      have HFR := Lib.hid ((Reads.of_own TS).frow)
      have HX := Lib.hid hk
      have HH0 := Lib.hid h0
      clear KB MS TS NE RS BL HJ hr hs hlt2 hk
      go_wp2_with fail
      refine (HMo.out _ (Reads.of_own HS.out.2.2.1)).mono ?_
      rintro e w5 ⟨rfl, h9⟩
      obtain ⟨KB, MS, TS, RS, BL, NE⟩ := HS.out
      replace KB := KB.below h9 KB.lt
      replace RS := RS.below h9 RS.lt
      replace MS := own_below MS h9
      obtain ⟨ad2, e2, _, c0, c1, c2⟩ := (HFR.out.below h9 (Nat.le_refl _)) m t1 t2 t3 HX.out
      replace BL := BL.trans (h9.mono BL.size)
      obtain rfl : A2 = some ad2 := e2
      have k0 := KB.cell 0
      have k1 := KB.cell 1
      have k2 := KB.cell 2
      have k3 := KB.cell 3
      have k4 := KB.cell 4
      have k5 := KB.cell 5
      have f1 := KB.frozen 1
      have f2 := KB.frozen 2
      have f3 := KB.frozen 3
      have r0 := RS.cell 0
      have g0 := RS.frozen 0
      have r1 := RS.cell 1
      have g1 := RS.frozen 1
      have r2 := RS.cell 2
      have g2 := RS.frozen 2
      have r3 := RS.cell 3
      have g3 := RS.frozen 3
      have r4 := RS.cell 4
      have g4 := RS.frozen 4
      have r5 := RS.cell 5
      have g5 := RS.frozen 5
      have HPF := Lib.hid (put6 (x := .slice Am k cm) (y := .int .u64 (t1 : Int)) (z := .int .u64 (t2 : Int)) (p := .int .u64 (t3 : Int)) (q := .int .u64 (ordP ps : Int)) (r := .bool (freshP ps)) ((((RS).far (p := ⟨w.heap.size + 1, 1, none⟩) (by show w.heap.size ≠ w.heap.size + 1; omega) (.int .u64 (t1 : Int))).far (p := ⟨w.heap.size + 1, 2, none⟩) (by show w.heap.size ≠ w.heap.size + 1; omega) (.int .u64 (t2 : Int))).far (p := ⟨w.heap.size + 1, 3, none⟩) (by show w.heap.size ≠ w.heap.size + 1; omega) (.int .u64 (t3 : Int))) ((((BL).setCell (p := ⟨w.heap.size + 1, 1, none⟩) (by show w.heap.size ≤ w.heap.size + 1; omega) (.int .u64 (t1 : Int))).setCell (p := ⟨w.heap.size + 1, 2, none⟩) (by show w.heap.size ≤ w.heap.size + 1; omega) (.int .u64 (t2 : Int))).setCell (p := ⟨w.heap.size + 1, 3, none⟩) (by show w.heap.size ≤ w.heap.size + 1; omega) (.int .u64 (t3 : Int))) (Nat.le_refl _))
      have HOW := Lib.hid (own_down (own_set (own_set (own_set (own_set (own_set (own_set (own_set (own_set (own_set (MS) (g := w.heap.size + 1) (by omega) 1 (.int .u64 (t1 : Int))) (g := w.heap.size + 1) (by omega) 2 (.int .u64 (t2 : Int))) (g := w.heap.size + 1) (by omega) 3 (.int .u64 (t3 : Int))) (g := w.heap.size) (by omega) 0 (.slice Am k cm)) (g := w.heap.size) (by omega) 1 (.int .u64 (t1 : Int))) (g := w.heap.size) (by omega) 2 (.int .u64 (t2 : Int))) (g := w.heap.size) (by omega) 3 (.int .u64 (t3 : Int))) (g := w.heap.size) (by omega) 4 (.int .u64 (ordP ps : Int))) (g := w.heap.size) (by omega) 5 (.bool (freshP ps))) (show w.heap.size ≤ w.heap.size + 1 + 1 by omega))
      clear h9 TS NE KB RS BL MS
      go_wp2_with fail
      exact bodyPost_ret (v := .agg #[.slice Am k cm, .int .u64 (t1 : Int), .int .u64 (t2 : Int), .int .u64 (t3 : Int), .int .u64 (ordP ps : Int), .bool (freshP ps)]) (results_cell_row Try.results39 _ _ _ _ _ _ _ rfl HPF.out.1 Try.underlying47 rfl (by kernel_rfl)) rfl ⟨Am, cm, by rw [HMx.out]; rfl, HOW.out, HPF.out.2⟩

end Go.Proofs.Ytngbamoffjlodaa
/-
  The landed Entities' closure, which takes some that are left and lays their entity. No statement is proved here.
-/
namespace Go.Proofs.Ytngbamoffjlodaa
open Go.RowKit Go.Maps

theorem ent_info : (Try.prog.info? 47).map (fun i => (i.zero, i.size, i.bytes)) = some (some (.agg #[.slice none 0 0, .int .u64 0, .int .u64 0, .int .u64 0, .int .u64 0, .bool false]), 6, 64) := by kernel_rfl
theorem ev_ones (l : List En) : ∀ u ∈ flat ev l, u.oneCell' = true := flat_all ev (fun a u hu => by
  simp only [ev, List.mem_cons, List.not_mem_nil, or_false] at hu
  rcases hu with rfl | rfl | rfl | rfl | rfl | rfl <;> rfl) l
/-- the slice of an entity's members -/
def slE (e : En) : Value := .slice e.1.1 e.1.2.1 e.1.2.2.1
/-- entities that are being laid, and what is left -/
structure ST (w : World) (B0 B bL bl b m : Nat) (L : List Pt) (A : Option Addr) (n c : Nat) (E : List En) : Prop where
  bnd : (B0 ≤ bL ∧ B0 ≤ bl ∧ B0 ≤ b) ∧ (bL < B ∧ bl < B ∧ b < B) ∧ B ≤ w.heap.size
  left : Blk w bL 75 #[.map (some b)]
  box : Blk w bl 34 #[.slice A n c]
  map_ : PM w b m L
  row : w.ownsRow B 47 6 (.slice A n c) n (flat ev E)
  mem : ∀ e ∈ E, w.ownsRow B 3 1 (slE e) e.1.2.1 (vs e.1.2.2.2)
  ne : ∀ e ∈ E, ∀ j j', (slE e).ownBlock = some j → (Value.slice A n c).ownBlock = some j' → j ≠ j'
section
variable {w w' : World} {B0 B bL bl b m : Nat} {L L' : List Pt} {A : Option Addr} {n c : Nat} {E : List En}
theorem ST.grown (h : ST w B0 B bL bl b m L A n c E) (hg : w.grownBy w' (some b)) (hM : PM w' b m L') : ST w' B0 B bL bl b m L' A n c E :=
  ⟨⟨h.bnd.1, h.bnd.2.1, Nat.le_trans h.bnd.2.2 hg.size⟩, h.left.grown hg (fun e => by injection e with e; exact h.map_.not_cells h.left e), h.box.grown hg (fun e => by injection e with e; exact h.map_.not_cells h.box e), hM,
    grown_own h.row hg h.bnd.2.1.2.2, fun e he => grown_own (h.mem e he) hg h.bnd.2.1.2.2, h.ne⟩
theorem ST.below (h : ST w B0 B bL bl b m L A n c E) (hb : Below w.heap.size w w') : ST w' B0 B bL bl b m L A n c E :=
  ⟨⟨h.bnd.1, h.bnd.2.1, Nat.le_trans h.bnd.2.2 hb.size⟩, h.left.below hb h.left.lt, h.box.below hb h.box.lt, h.map_.below hb, own_below h.row hb, fun e he => own_below (h.mem e he) hb, h.ne⟩
theorem ST.boxes (h : ST w B0 B bL bl b m L A n c E) : bL ≠ bl := by
  intro e
  have h1 := h.left
  have h2 := h.box
  subst e
  unfold Blk at h1 h2
  rw [h1] at h2
  injection h2 with h2
  injection h2 with _ h2
  cases h2
theorem ST.len (h : ST w B0 B bL bl b m L A n c E) : E.length = n := by
  have h1 := h.row.1
  rw [length_flat ev length_ev] at h1
  omega
theorem ST.bnd_le (h : ST w B0 B bL bl b m L A n c E) : B0 ≤ w.heap.size := by have := h.bnd; omega
/-- one entity more -/
theorem ST.more (h : ST w B0 B bL bl b m L A n c E) {o : Obj} {A2 : Option Addr} {c2 : Nat} {e : En} (hm : w.ownsRow B 3 1 (slE e) e.1.2.1 (vs e.1.2.2.2)) (hne : ∀ j j', (slE e).ownBlock = some j → (Value.slice A n c).ownBlock = some j' → j ≠ j')
    (hg : (w.alloc o).grownBy w' (Value.slice A n c).ownBlock) (ho : w'.ownsRow B 47 6 (.slice A2 (n + 1) c2) (n + 1) (flat ev (E ++ [e]))) (hw : (Value.slice A2 (n + 1) c2).ownBlock = (Value.slice A n c).ownBlock ∨ (Value.slice A2 (n + 1) c2).ownBlock = some (w.alloc o).heap.size) :
    ST (w'.setCell ⟨bl, 0, none⟩ (.slice A2 (n + 1) c2)) B0 B bL bl b m L A2 (n + 1) c2 (E ++ [e]) ∧ (∀ a, Below B0 a w → Below B0 a (w'.setCell ⟨bl, 0, none⟩ (.slice A2 (n + 1) c2))) := by
  have hrow := h.row.alloc o
  have hbd := h.bnd
  refine ⟨⟨⟨hbd.1, hbd.2.1, ?_⟩, ?_, ?_, ?_, ?_, ?_, ?_⟩, ?_⟩
  · have := hg.size
    simp at this ⊢
    omega
  · exact ((h.left.alloc o).own hrow hg hbd.2.1.1).far (p := ⟨bl, 0, none⟩) h.boxes _
  · have := ((h.box.alloc o).own hrow hg hbd.2.1.2.1).set_ 0 (.slice A2 (n + 1) c2)
    simpa using this
  · refine PM.setCell ((h.map_.alloc o).kept hg fun he => ?_) (fun he => ?_) _
    · have := (h.row.lt b he.symm).1; omega
    · exact h.map_.not_cells h.box he.symm
  · exact own_set ho (g := bl) (by omega) 0 _
  · intro x hx
    rw [List.mem_append, List.mem_singleton] at hx
    refine own_set ?_ (g := bl) (by omega) 0 _
    rcases hx with hx | rfl
    · exact own_other ((h.mem x hx).alloc o) hg (h.ne x hx)
    · exact own_other (hm.alloc o) hg hne
  · intro x hx
    rw [List.mem_append, List.mem_singleton] at hx
    rcases hx with hx | rfl
    · exact ne_other ((h.mem x hx).alloc o) (h.ne x hx) hw
    · exact ne_other (hm.alloc o) hne hw
  · intro a ha
    have hz : B0 ≤ w.heap.size := by have := hbd; omega
    exact ((ha.alloc hz o).grown hg (by simp; omega) (fun k hk => by have := (h.row.lt k hk).1; omega)).setCell (p := ⟨bl, 0, none⟩) hbd.1.2.1 _
end
theorem mkP_some {ps : List Pt} (h : 0 < ps.length) : mkP ps = [joinP ps] := by
  unfold mkP
  rw [if_neg (fun e => by rw [e] at h; simp at h)]

set_option maxRecDepth 100000 in
set_option maxHeartbeats 16000000 in
theorem add_any (B0 B bL bl b m : Nat) (L : List Pt) (A : Option Addr) (n c : Nat) (E : List En) (A' : Option Addr) (n' c' : Nat) (is : List Int) (w : World) (hS : ST w B0 B bL bl b m L A n c E) (hI : IR w A' n' is) (hN : is.Nodup) (hb : ∀ x ∈ is, 0 ≤ x ∧ x ≤ 4611686018427387904)
    (hr : allB (timesP (takeP L is)) = true) (hs : Small (timesP (takeP L is))) (hn : n ≤ 1000) (hn' : n' ≤ 100) :
    Calls Try.prog 37 #[.slice A' n' c', .pointer (some ⟨bL, 0, none⟩), .pointer (some ⟨bl, 0, none⟩)] w fun e w' => e = .returned (.tuple #[]) ∧ ∃ A2 n2 c2 E2, ST w' B0 B bL bl b m (L.filter fun p => decide (p.1 ∉ is)) A2 n2 c2 E2 ∧
      E2.map et = E.map et ++ mkP (takeP L is) ∧ n2 ≤ n + 1 ∧ Below B0 w w' := by
  obtain ⟨i0, hi0, hz0, hz1, hz2⟩ := info_parts9 ent_info
  have HT := Lib.hid (take_any b m L A' n' c' is w hS.map_ hI hN hb)
  have HLT : Hid ((takeP L is).length ≤ 100) := Lib.hid (Nat.le_trans (List.length_filterMap_le _ _) (by have := hI.len; omega))
  have k0 := hS.left.cell 0
  have HS := Lib.hid hS
  have HR := Lib.hid (And.intro hr hs)
  clear hI hN hb hr hs hS
  go_enter Try.func37, Try.ntmps37
  go_wp2_with fail
  refine HT.out.mono ?_
  rintro e w1 ⟨A1, c1, n1, rfl, hn1, own1, M1, g1⟩
  have S1 := HS.out.grown g1 M1
  have hbl : Below B0 w w1 := by
    have hbd := HS.out.bnd
    exact (Below.refl B0 w).grown g1 (by omega) (fun k hk => by injection hk with hk; omega)
  clear k0 M1 g1
  by_cases h1 : n1 = 0
  · subst h1
    have HS1 := Lib.hid S1
    have HB1 := Lib.hid hbl
    have HE : Hid (mkP (takeP L is) = []) := Lib.hid (by unfold mkP; rw [if_pos (List.eq_nil_of_length_eq_zero hn1.symm)])
    clear S1 hbl own1 hn1
    go_wp2
    go_end0
    exact ⟨rfl, A, n, c, E, HS1.out, by rw [HE.out, List.append_nil], by omega, HB1.out⟩
  · have j1 : (0 : Int) < (n1 : Int) := by omega
    have j2 : decide ((0 : Int) < (n1 : Int)) = true := by simpa using j1
    obtain ⟨ps, hps⟩ : ∃ ps, takeP L is = ps := ⟨_, rfl⟩
    rw [hps] at HR HLT hn1 own1
    have HPR : Hid (PR w1 A1 n1 ps) := Lib.hid ⟨Reads.of_own own1, by rw [hn1]; exact HLT.out⟩
    obtain ⟨t1, t2, t3, ht⟩ : ∃ a b d, tmaxP ps = (a, b, d) := ⟨_, _, _, rfl⟩
    obtain ⟨o, ho⟩ : ∃ o, ordP ps = o := ⟨_, rfl⟩
    obtain ⟨f, hf⟩ : ∃ f, freshP ps = f := ⟨_, rfl⟩
    have HJP : Hid ((idsP ps, (t1, t2, t3), o, f) = joinP ps) := Lib.hid (by unfold joinP; rw [ht, ho, hf])
    have hJ := fun (u : World) (h : Below w1.heap.size w1 u) => joined_any A1 n1 c1 ps u (HPR.out.below h) (by omega) HR.out.1 HR.out.2
    simp only [ht, ho, hf, agE] at hJ
    have HJ := Lib.hid hJ
    clear hJ ht ho hf
    have HE : Hid (mkP (takeP L is) = [joinP ps]) := Lib.hid (by rw [hps]; exact mkP_some (by omega))
    have HS1 := Lib.hid S1
    have HB1 := Lib.hid hbl
    clear S1 hbl own1 hn1 hps
    go_upto_region 2 with fail
    refine wp_region_held_drew (S := fun _ => True) (by kernel_rfl) trivial (fun hS => ?_)
    have SV : ST w1.drew B0 B bL bl b m (L.filter fun p => decide (p.1 ∉ is)) A n c E := HS1.out.below (Below.refl _ _).drew
    have GV : Below w1.heap.size w1 w1.drew := (Below.refl _ _).drew
    have HBV : Hid (Below B0 w w1.drew) := Lib.hid HB1.out.drew
    generalize w1.drew = V at SV GV HBV ⊢
    refine wpAnyH_take (i := 1) (v := .slice A1 n1 c1) rfl (by kernel_rfl) (by kernel_rfl) (by kernel_rfl) (fun _ _ _ h => h) (Or.inl ⟨by kernel_rfl, fun u hSw => (by go_simp)⟩) hS ?_
    change wpAnyH _ _ _ _ _ _ _ (Act.put _ (some 12) _) _
    simp only [Act.put]
    refine wpAnyH_ready (rs := [0, 2]) (by kernel_rfl) (by simp) ?_
    refine AllReadyH.cons rfl (fun K hK => ?_) (AllReadyH.cons rfl (fun K hK => ?_) (AllReadyH.nil))
    · skip
      have k0 := SV.box.cell 0
      go_simp
      refine hK.out _ _ trivial (fun hS => ?_)
      clear hK K k0
      try simp only [Act.put]
      refine wpAnyH_ready (rs := [2]) (by kernel_rfl) (by simp) ?_
      refine AllReadyH.cons rfl (fun K hK => ?_) (AllReadyH.nil)
      go_simp
      refine (HJ.out _ GV).mono ?_
      rintro e2 w2 ⟨Am, cm, rfl, ow2, h9⟩
      have S2 := SV.below h9
      have G2 := GV.trans (h9.mono GV.size)
      have B2 := HBV.out.trans (h9.mono SV.bnd_le)
      have hne : ∀ j j', (Value.slice Am n1 cm).ownBlock = some j → (Value.slice A n c).ownBlock = some j' → j ≠ j' := fun j j' hj hj' => by
        have := (ow2.lt j hj).1
        have := (SV.row.lt j' hj').2
        omega
      have ow2 := own_down ow2 SV.bnd.2.2
      refine hK.out _ _ trivial (fun hS => ?_)
      clear hK K h9
      try simp only [Act.put]
      refine wpAnyH_ready (rs := [3]) (by kernel_rfl) (by simp) ?_
      refine AllReadyH.cons rfl (fun K hK => ?_) (AllReadyH.nil)
      go_simp
      refine hK.out _ _ trivial (fun hS => ?_)
      clear hK K
      try simp only [Act.put]
      refine wpAnyH_ready (rs := [4]) (by kernel_rfl) (by simp) ?_
      refine AllReadyH.cons rfl (fun K hK => ?_) (AllReadyH.nil)
      refine step_append_any _ rfl (.tmp 11) (.tmp 14) 34 rfl B 47 i0 (.agg #[.slice none 0 0, .int .u64 0, .int .u64 0, .int .u64 0, .int .u64 0, .bool false]) 6 64 Try.underlying34 hi0 hz0 hz1 hz2 rfl (by decide) (.slice A n c) n (flat ev E) rfl (S2.row.alloc (.cells #[.slice Am n1 cm, .int .u64 (t1 : Int), .int .u64 (t2 : Int), .int .u64 (t3 : Int), .int .u64 (o : Int), .bool f] 47)) _ (some ⟨w2.heap.size, 0, none⟩) 1 1 (flat ev [((Am, n1, cm, idsP ps), (t1, t2, t3), o, f)]) rfl (reads_new _ _ _ rfl rfl) (ev_ones _) (by simp only [maxLen]; omega) (by omega) (by have := S2.bnd.2.2; simp; omega) ?_
      intro v3 w3 own3 grow3 ne3
      rw [← flat_append] at own3
      obtain ⟨A3, c3, rfl, _, _⟩ := own_reads own3
      have S3 := S2.more (o := (.cells #[.slice Am n1 cm, .int .u64 (t1 : Int), .int .u64 (t2 : Int), .int .u64 (t3 : Int), .int .u64 (o : Int), .bool f] 47)) (e := ((Am, n1, cm, idsP ps), (t1, t2, t3), o, f)) ow2 hne grow3 own3 ne3
      have hbx := (S2.box.alloc (.cells #[.slice Am n1 cm, .int .u64 (t1 : Int), .int .u64 (t2 : Int), .int .u64 (t3 : Int), .int .u64 (o : Int), .bool f] 47)).own (S2.row.alloc (.cells #[.slice Am n1 cm, .int .u64 (t1 : Int), .int .u64 (t2 : Int), .int .u64 (t3 : Int), .int .u64 (o : Int), .bool f] 47)) grow3 S2.bnd.2.1.2.1
      have k1 := hbx.cell 0
      have f1 := hbx.frozen 0
      have HR3 := Lib.hid (And.intro S3.1 (S3.2 _ B2))
      clear own3 grow3 ne3 S3 hbx S2 G2 B2 hne ow2
      refine hK.out _ _ trivial (fun hS => ?_)
      clear hK K
      try simp only [Act.put]
      refine wpAnyH_ready (rs := [5]) (by kernel_rfl) (by simp) ?_
      refine AllReadyH.cons rfl (fun K hK => ?_) (AllReadyH.nil)
      go_simp
      refine hK.out _ _ trivial (fun hS => ?_)
      clear hK K k1 f1
      try simp only [Act.put]
      refine wpAnyH_done (by kernel_rfl) ?_ _
      clear hS
      go_end0
      exact ⟨rfl, A3, n + 1, c3, E ++ [((Am, n1, cm, idsP ps), (t1, t2, t3), o, f)], HR3.out.1, by rw [List.map_append, HE.out, ← HJP.out]; rfl, by omega, HR3.out.2⟩
    · skip
      go_simp
      refine (HJ.out _ GV).mono ?_
      rintro e2 w2 ⟨Am, cm, rfl, ow2, h9⟩
      have S2 := SV.below h9
      have G2 := GV.trans (h9.mono GV.size)
      have B2 := HBV.out.trans (h9.mono SV.bnd_le)
      have hne : ∀ j j', (Value.slice Am n1 cm).ownBlock = some j → (Value.slice A n c).ownBlock = some j' → j ≠ j' := fun j j' hj hj' => by
        have := (ow2.lt j hj).1
        have := (SV.row.lt j' hj').2
        omega
      have ow2 := own_down ow2 SV.bnd.2.2
      refine hK.out _ _ trivial (fun hS => ?_)
      clear hK K h9
      try simp only [Act.put]
      refine wpAnyH_ready (rs := [0, 3]) (by kernel_rfl) (by simp) ?_
      refine AllReadyH.cons rfl (fun K hK => ?_) (AllReadyH.cons rfl (fun K hK => ?_) (AllReadyH.nil))
      · skip
        have k0 := S2.box.cell 0
        go_simp
        refine hK.out _ _ trivial (fun hS => ?_)
        clear hK K k0
        try simp only [Act.put]
        refine wpAnyH_ready (rs := [3]) (by kernel_rfl) (by simp) ?_
        refine AllReadyH.cons rfl (fun K hK => ?_) (AllReadyH.nil)
        go_simp
        refine hK.out _ _ trivial (fun hS => ?_)
        clear hK K
        try simp only [Act.put]
        refine wpAnyH_ready (rs := [4]) (by kernel_rfl) (by simp) ?_
        refine AllReadyH.cons rfl (fun K hK => ?_) (AllReadyH.nil)
        refine step_append_any _ rfl (.tmp 11) (.tmp 14) 34 rfl B 47 i0 (.agg #[.slice none 0 0, .int .u64 0, .int .u64 0, .int .u64 0, .int .u64 0, .bool false]) 6 64 Try.underlying34 hi0 hz0 hz1 hz2 rfl (by decide) (.slice A n c) n (flat ev E) rfl (S2.row.alloc (.cells #[.slice Am n1 cm, .int .u64 (t1 : Int), .int .u64 (t2 : Int), .int .u64 (t3 : Int), .int .u64 (o : Int), .bool f] 47)) _ (some ⟨w2.heap.size, 0, none⟩) 1 1 (flat ev [((Am, n1, cm, idsP ps), (t1, t2, t3), o, f)]) rfl (reads_new _ _ _ rfl rfl) (ev_ones _) (by simp only [maxLen]; omega) (by omega) (by have := S2.bnd.2.2; simp; omega) ?_
        intro v3 w3 own3 grow3 ne3
        rw [← flat_append] at own3
        obtain ⟨A3, c3, rfl, _, _⟩ := own_reads own3
        have S3 := S2.more (o := (.cells #[.slice Am n1 cm, .int .u64 (t1 : Int), .int .u64 (t2 : Int), .int .u64 (t3 : Int), .int .u64 (o : Int), .bool f] 47)) (e := ((Am, n1, cm, idsP ps), (t1, t2, t3), o, f)) ow2 hne grow3 own3 ne3
        have hbx := (S2.box.alloc (.cells #[.slice Am n1 cm, .int .u64 (t1 : Int), .int .u64 (t2 : Int), .int .u64 (t3 : Int), .int .u64 (o : Int), .bool f] 47)).own (S2.row.alloc (.cells #[.slice Am n1 cm, .int .u64 (t1 : Int), .int .u64 (t2 : Int), .int .u64 (t3 : Int), .int .u64 (o : Int), .bool f] 47)) grow3 S2.bnd.2.1.2.1
        have k1 := hbx.cell 0
        have f1 := hbx.frozen 0
        have HR3 := Lib.hid (And.intro S3.1 (S3.2 _ B2))
        clear own3 grow3 ne3 S3 hbx S2 G2 B2 hne ow2
        refine hK.out _ _ trivial (fun hS => ?_)
        clear hK K
        try simp only [Act.put]
        refine wpAnyH_ready (rs := [5]) (by kernel_rfl) (by simp) ?_
        refine AllReadyH.cons rfl (fun K hK => ?_) (AllReadyH.nil)
        go_simp
        refine hK.out _ _ trivial (fun hS => ?_)
        clear hK K k1 f1
        try simp only [Act.put]
        refine wpAnyH_done (by kernel_rfl) ?_ _
        clear hS
        go_end0
        exact ⟨rfl, A3, n + 1, c3, E ++ [((Am, n1, cm, idsP ps), (t1, t2, t3), o, f)], HR3.out.1, by rw [List.map_append, HE.out, ← HJP.out]; rfl, by omega, HR3.out.2⟩
      · skip
        go_simp
        have k0 := (S2.box.alloc (.cells #[.slice Am n1 cm, .int .u64 (t1 : Int), .int .u64 (t2 : Int), .int .u64 (t3 : Int), .int .u64 (o : Int), .bool f] 47)).cell 0
        refine hK.out _ _ trivial (fun hS => ?_)
        clear hK K
        try simp only [Act.put]
        refine wpAnyH_ready (rs := [0]) (by kernel_rfl) (by simp) ?_
        refine AllReadyH.cons rfl (fun K hK => ?_) (AllReadyH.nil)
        go_simp
        refine hK.out _ _ trivial (fun hS => ?_)
        clear hK K k0
        try simp only [Act.put]
        refine wpAnyH_ready (rs := [4]) (by kernel_rfl) (by simp) ?_
        refine AllReadyH.cons rfl (fun K hK => ?_) (AllReadyH.nil)
        refine step_append_any _ rfl (.tmp 11) (.tmp 14) 34 rfl B 47 i0 (.agg #[.slice none 0 0, .int .u64 0, .int .u64 0, .int .u64 0, .int .u64 0, .bool false]) 6 64 Try.underlying34 hi0 hz0 hz1 hz2 rfl (by decide) (.slice A n c) n (flat ev E) rfl (S2.row.alloc (.cells #[.slice Am n1 cm, .int .u64 (t1 : Int), .int .u64 (t2 : Int), .int .u64 (t3 : Int), .int .u64 (o : Int), .bool f] 47)) _ (some ⟨w2.heap.size, 0, none⟩) 1 1 (flat ev [((Am, n1, cm, idsP ps), (t1, t2, t3), o, f)]) rfl (reads_new _ _ _ rfl rfl) (ev_ones _) (by simp only [maxLen]; omega) (by omega) (by have := S2.bnd.2.2; simp; omega) ?_
        intro v3 w3 own3 grow3 ne3
        rw [← flat_append] at own3
        obtain ⟨A3, c3, rfl, _, _⟩ := own_reads own3
        have S3 := S2.more (o := (.cells #[.slice Am n1 cm, .int .u64 (t1 : Int), .int .u64 (t2 : Int), .int .u64 (t3 : Int), .int .u64 (o : Int), .bool f] 47)) (e := ((Am, n1, cm, idsP ps), (t1, t2, t3), o, f)) ow2 hne grow3 own3 ne3
        have hbx := (S2.box.alloc (.cells #[.slice Am n1 cm, .int .u64 (t1 : Int), .int .u64 (t2 : Int), .int .u64 (t3 : Int), .int .u64 (o : Int), .bool f] 47)).own (S2.row.alloc (.cells #[.slice Am n1 cm, .int .u64 (t1 : Int), .int .u64 (t2 : Int), .int .u64 (t3 : Int), .int .u64 (o : Int), .bool f] 47)) grow3 S2.bnd.2.1.2.1
        have k1 := hbx.cell 0
        have f1 := hbx.frozen 0
        have HR3 := Lib.hid (And.intro S3.1 (S3.2 _ B2))
        clear own3 grow3 ne3 S3 hbx S2 G2 B2 hne ow2
        refine hK.out _ _ trivial (fun hS => ?_)
        clear hK K
        try simp only [Act.put]
        refine wpAnyH_ready (rs := [5]) (by kernel_rfl) (by simp) ?_
        refine AllReadyH.cons rfl (fun K hK => ?_) (AllReadyH.nil)
        go_simp
        refine hK.out _ _ trivial (fun hS => ?_)
        clear hK K k1 f1
        try simp only [Act.put]
        refine wpAnyH_done (by kernel_rfl) ?_ _
        clear hS
        go_end0
        exact ⟨rfl, A3, n + 1, c3, E ++ [((Am, n1, cm, idsP ps), (t1, t2, t3), o, f)], HR3.out.1, by rw [List.map_append, HE.out, ← HJP.out]; rfl, by omega, HR3.out.2⟩

end Go.Proofs.Ytngbamoffjlodaa
