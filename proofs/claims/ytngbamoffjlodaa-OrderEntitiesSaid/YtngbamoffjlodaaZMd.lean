/-
  Several texts as one.
-/
import Derived.Test.YtngbamoffjlodaaZMb
import Derived.Maps.OwnSet
import Derived.Maps.Views
import Derived.Deep.DeepCutAuto
/-
  Sets and maps of the landed order: views; meet. No statement is proved here.
-/
namespace Go.Proofs.Ytngbamoffjlodaa
open Go.RowKit Go.Maps

/-- the set into which each of L was put -/
def setD (q : IntKind) (L : List Int) : DataW Unit := L.foldl (fun D x => D.put (.int q x) (.agg [])) (.map [])
theorem setD_snoc (q : IntKind) (L : List Int) (x : Int) : setD q (L ++ [x]) = (setD q L).put (.int q x) (.agg []) := by simp [setD, List.foldl_append]
theorem rev_ind {p : List Int → Prop} (h0 : p []) (h1 : ∀ L x, p L → p (L ++ [x])) (L : List Int) : p L := by
  rw [← List.reverse_reverse L]
  induction L.reverse with
  | nil => exact h0
  | cons x r ih => rw [List.reverse_cons]; exact h1 _ _ ih
theorem key_int (q : IntKind) (x : Int) : WideAt.IsKeyLit (.int q x) := trivial
theorem setD_tidy (q : IntKind) (L : List Int) : Tidy (setD q L) := by
  refine rev_ind (p := fun L => Tidy (setD q L)) tidy_empty (fun L x h => ?_) L
  rw [setD_snoc]
  exact h.put (key_int q x) _
theorem setD_has (q : IntKind) (L : List Int) (x : Int) : has (setD q L) (.int q x) = decide (x ∈ L) := by
  refine rev_ind (p := fun L => has (setD q L) (.int q x) = decide (x ∈ L)) rfl (fun L y h => ?_) L
  rw [setD_snoc]
  by_cases e : x = y
  · subst e
    rw [has_put_same (setD_tidy q L).isMap (key_int q x)]
    simp
  · rw [has_put_other (by intro h; injection h with _ h; exact e h), h]
    simp [e]
theorem setD_size (q : IntKind) (L : List Int) (h : L.Nodup) : size (setD q L) = L.length := by
  refine rev_ind (p := fun L => L.Nodup → size (setD q L) = L.length) (fun _ => rfl) (fun L y ih h => ?_) L h
  rw [List.Nodup, List.pairwise_append] at h
  rw [setD_snoc, size_put (setD_tidy q L), setD_has, ih h.1, if_neg (by
    simp only [decide_eq_true_eq]
    intro hy
    exact h.2.2 y hy y (by simp) rfl)]
  simp
theorem setD_size_met (q : IntKind) (L : List Int) (x : Int) (hx : x ∈ L) : size ((setD q L).put (.int q x) (.agg [])) = size (setD q L) := by
  rw [size_put (setD_tidy q L), setD_has, if_pos (by simpa using hx)]

/-- block b is the set of L -/
structure SM (k : TypeId) (q : IntKind) (w : World) (b : Nat) (L : List Int) : Prop where
  own : w.ownsMap Try.prog k (unitElem (H := Unit)) b L.length (setD q L)
  nodup : L.Nodup
  small : L.length ≤ 10000
section
variable {k : TypeId} {q : IntKind} {w w' : World} {b b' : Nat} {L : List Int}
theorem SM.made (w : World) : SM k q (w.alloc (.map #[] 0)) w.heap.size [] := ⟨World.ownsMap_made _ _ _ _, List.Pairwise.nil, by simp⟩
theorem SM.lt (h : SM k q w b L) : b < w.heap.size := h.own.lt
theorem SM.alloc (h : SM k q w b L) (o : Obj) : SM k q (w.alloc o) b L := ⟨h.own.alloc o, h.nodup, h.small⟩
theorem SM.below (h : SM k q w b L) (hb : Below w.heap.size w w') : SM k q w' b L := by
  have hlt := h.lt
  obtain ⟨es, clock, hh, F, hs, hD⟩ := h.own
  exact ⟨⟨es, clock, (hb.block b hlt).trans hh, F, hs, hD⟩, h.nodup, h.small⟩
end

theorem nodup_snoc {L : List Int} {x : Int} (h : L.Nodup) (hx : x ∉ L) : (L ++ [x]).Nodup := by
  rw [List.nodup_append]
  refine ⟨h, by simp, fun a ha c hc => ?_⟩
  rw [List.mem_singleton.1 hc]
  intro e
  subst e
  exact hx ha
theorem SM.more {k : TypeId} {q : IntKind} {w w' : World} {b : Nat} {L : List Int} {x : Int} (h : SM k q w b L) (hs : L.length < 10000) (hx : x ∉ L) (ho : w'.ownsMap Try.prog k (unitElem (H := Unit)) b (L.length + 1) ((setD q L).put (.int q x) (.agg []))) : SM k q w' b (L ++ [x]) := by
  refine ⟨?_, ?_, by rw [List.length_append, List.length_singleton]; omega⟩
  · rw [setD_snoc, List.length_append, List.length_singleton]
    exact ho
  · rw [List.nodup_append]
    refine ⟨h.nodup, by simp, fun a ha c hc => ?_⟩
    rw [List.mem_singleton.1 hc]
    intro e
    subst e
    exact hx ha
theorem retb {a b : Bool} (h : a = b) : Ending.returned (.bool a) = .returned (.bool b) := by rw [h]
/-- what meet tells and leaves -/
def Met (k : TypeId) (q : IntKind) (b : Nat) (L : List Int) (x : Int) (w : World) (e : Ending) (w' : World) : Prop :=
  e = .returned (.bool (decide (x ∉ L))) ∧ w.grownBy w' (some b) ∧ (x ∉ L → SM k q w' b (L ++ [x]))

theorem keyi {x : Int} (h0 : 0 ≤ x) (h1 : x ≤ 4611686018427387904) : keyOf Try.prog 3 (.int .i64 x) = some (.int .i64 x) := by
  refine keyOf_int_mk Try.underlying3 ?_
  unfold Lit.wf
  rw [Bool.and_eq_true, decide_eq_true_eq, decide_eq_true_eq]
  show -9223372036854775808 ≤ x ∧ x ≤ 9223372036854775807
  omega
theorem keyu {x : Int} (h0 : 0 ≤ x) (h1 : x ≤ 4611686018427387904) : keyOf Try.prog 41 (.int .u64 x) = some (.int .u64 x) := by
  refine keyOf_int_mk Try.underlying41 ?_
  unfold Lit.wf
  rw [Bool.and_eq_true, decide_eq_true_eq, decide_eq_true_eq]
  show 0 ≤ x ∧ x ≤ 18446744073709551615
  omega

set_option maxRecDepth 100000 in
set_option maxHeartbeats 1000000 in
theorem meeti_any (b : Nat) (L : List Int) (x : Int) (w : World) (hM : SM 3 .i64 w b L) (h0 : 0 ≤ x) (h1 : x ≤ 4611686018427387904) (hs : L.length < 10000) :
    Calls Try.prog 70 #[.map (some b), .int .i64 x] w (Met 3 .i64 b L x w) := by
  have HM := Lib.hid hM
  have HKEY := Lib.hid (keyi h0 h1)
  have HS := Lib.hid hs
  clear h0 h1
  obtain ⟨m, hm⟩ : ∃ m : Nat, size (setD .i64 L) = m := ⟨_, rfl⟩
  obtain ⟨m2, hm2⟩ : ∃ m2 : Nat, size ((setD .i64 L).put (.int .i64 x) (.agg [])) = m2 := ⟨_, rfl⟩
  have HR : Hid (decide (m < m2) = decide (x ∉ L)) := Lib.hid (by
    rw [← hm, ← hm2]
    by_cases hx : x ∈ L
    · rw [setD_size_met _ _ _ hx, decide_eq_false (by omega), decide_eq_false (by simpa using hx)]
    · rw [← setD_snoc, setD_size _ _ hM.nodup, setD_size _ _ (nodup_snoc hM.nodup hx)]
      rw [decide_eq_true (by simp only [List.length_append, List.length_singleton]; omega), decide_eq_true hx])
  have HV := Lib.hid hm
  have HV2 := Lib.hid hm2
  clear hM hs hm hm2
  go_enter Try.func70, Try.ntmps70
  go_wp2_with (first
    | (at_mapUpdate; refine wpList_mapUpdate_in _ rfl _ _ _ 109 rfl 3 139 (int_keyed Try.underlying3) Try.underlying109 _ b _ _ rfl HM.out.own (by have := HS.out; unfold maxLen; omega) _ _ _ rfl rfl HKEY.out _ [] unitElem_mk ?_; intro w1 own1 turn1)
    | (at_len; refine wpList_len_own _ rfl _ 109 rfl 3 139 Try.underlying109 _ b _ _ rfl own1 ?_; rw [HV2.out])
    | (at_len; refine wpList_len_own _ rfl _ 109 rfl 3 139 Try.underlying109 _ b _ _ rfl HM.out.own ?_; rw [HV.out]))
  go_ret
  exact ⟨retb HR.out, turn1.grown, fun hx => HM.out.more HS.out hx own1⟩

set_option maxRecDepth 100000 in
set_option maxHeartbeats 1000000 in
theorem meetu_any (b : Nat) (L : List Int) (x : Int) (w : World) (hM : SM 41 .u64 w b L) (h0 : 0 ≤ x) (h1 : x ≤ 4611686018427387904) (hs : L.length < 10000) :
    Calls Try.prog 69 #[.map (some b), .int .u64 x] w (Met 41 .u64 b L x w) := by
  have HM := Lib.hid hM
  have HKEY := Lib.hid (keyu h0 h1)
  have HS := Lib.hid hs
  clear h0 h1
  obtain ⟨m, hm⟩ : ∃ m : Nat, size (setD .u64 L) = m := ⟨_, rfl⟩
  obtain ⟨m2, hm2⟩ : ∃ m2 : Nat, size ((setD .u64 L).put (.int .u64 x) (.agg [])) = m2 := ⟨_, rfl⟩
  have HR : Hid (decide (m < m2) = decide (x ∉ L)) := Lib.hid (by
    rw [← hm, ← hm2]
    by_cases hx : x ∈ L
    · rw [setD_size_met _ _ _ hx, decide_eq_false (by omega), decide_eq_false (by simpa using hx)]
    · rw [← setD_snoc, setD_size _ _ hM.nodup, setD_size _ _ (nodup_snoc hM.nodup hx)]
      rw [decide_eq_true (by simp only [List.length_append, List.length_singleton]; omega), decide_eq_true hx])
  have HV := Lib.hid hm
  have HV2 := Lib.hid hm2
  clear hM hs hm hm2
  go_enter Try.func69, Try.ntmps69
  go_wp2_with (first
    | (at_mapUpdate; refine wpList_mapUpdate_in _ rfl _ _ _ 107 rfl 41 139 (int_keyed Try.underlying41) Try.underlying107 _ b _ _ rfl HM.out.own (by have := HS.out; unfold maxLen; omega) _ _ _ rfl rfl HKEY.out _ [] unitElem_mk ?_; intro w1 own1 turn1)
    | (at_len; refine wpList_len_own _ rfl _ 107 rfl 41 139 Try.underlying107 _ b _ _ rfl own1 ?_; rw [HV2.out])
    | (at_len; refine wpList_len_own _ rfl _ 107 rfl 41 139 Try.underlying107 _ b _ _ rfl HM.out.own ?_; rw [HV.out]))
  go_ret
  exact ⟨retb HR.out, turn1.grown, fun hx => HM.out.more HS.out hx own1⟩

end Go.Proofs.Ytngbamoffjlodaa
/-
  The landed parts: all runners with their waits, by their Ids. No statement is proved here.
-/
namespace Go.Proofs.Ytngbamoffjlodaa
open Go.RowKit Go.Maps

theorem part_info : (Try.prog.info? 99).map (fun i => (i.zero, i.size, i.bytes)) = some (some (.agg #[.int .i64 0, .int .i64 0, .int .u64 0, .int .u64 0, .int .u64 0, .int .i64 0, .int .u64 0, .bool false]), 8, 64) := by kernel_rfl
theorem part_zero (w : World) : (zeroValue 99).run Try.prog w = .ok (.agg #[.int .i64 0, .int .i64 0, .int .u64 0, .int .u64 0, .int .u64 0, .int .i64 0, .int .u64 0, .bool false]) w := by kernel_rfl
/-- a part's cells -/
def pvA (p : Pt) : Array Value := #[.int .i64 p.1, .int .i64 p.2.1.1, .int .u64 (p.2.1.2.1 : Int), .int .u64 (p.2.1.2.2.1 : Int), .int .u64 (p.2.1.2.2.2 : Int), .int .i64 p.1, .int .u64 (p.2.2.1 : Int), .bool p.2.2.2]
def pv (p : Pt) : List Value := [.int .i64 p.1, .int .i64 p.2.1.1, .int .u64 (p.2.1.2.1 : Int), .int .u64 (p.2.1.2.2.1 : Int), .int .u64 (p.2.1.2.2.2 : Int), .int .i64 p.1, .int .u64 (p.2.2.1 : Int), .bool p.2.2.2]
theorem length_pv (p : Pt) : (pv p).length = 8 := rfl
/-- an element is held as it is -/
def heldE (v : Value) : Option (DataW Value × List MemPlace) := some (.held v, [])

/-- block b is a map of at most n entries: the parts of L, by their Ids -/
def PM (w : World) (b n : Nat) (L : List Pt) : Prop :=
  ∃ D : DataW Value, w.ownsMap Try.prog 3 heldE b n D ∧ n ≤ 1000 ∧ ∀ i : Int, has D (.int .i64 i) = (kf L i).isSome ∧ ∀ p, kf L i = some p → ∀ z, D.atKey (.int .i64 i) z = .held (.agg (pvA p))
section
variable {w w' : World} {b b' n : Nat} {L : List Pt}
theorem PM.made (w : World) : PM (w.alloc (.map #[] 0)) w.heap.size 0 [] := ⟨_, World.ownsMap_made _ _ _ _, by omega, fun i => ⟨rfl, fun p h => by cases h⟩⟩
theorem PM.lt (h : PM w b n L) : b < w.heap.size := h.choose_spec.1.lt
theorem PM.alloc (h : PM w b n L) (o : Obj) : PM (w.alloc o) b n L := by
  obtain ⟨D, h1, h2⟩ := h
  exact ⟨D, h1.alloc o, h2⟩
theorem PM.kept (h : PM w b n L) {row : Option Nat} (hg : w.grownBy w' row) (hne : some b ≠ row) : PM w' b n L := by
  obtain ⟨D, h1, h2⟩ := h
  exact ⟨D, h1.kept hg hne, h2⟩
theorem PM.setCell (h : PM w b n L) {a : Addr} (ha : b ≠ a.block) (u : Value) : PM (w.setCell a u) b n L := by
  obtain ⟨D, h1, h2⟩ := h
  exact ⟨D, h1.setCell ha u, h2⟩
theorem PM.below (h : PM w b n L) (hb : Below w.heap.size w w') : PM w' b n L := by
  have hlt := h.lt
  obtain ⟨D, ⟨es, clock, hh, F, hs, hD⟩, h2⟩ := h
  exact ⟨D, ⟨es, clock, (hb.block b hlt).trans hh, F, hs, hD⟩, h2⟩
/-- what is a map is no row of cells -/
theorem PM.block (h : PM w b n L) : ∃ es clock, w.heap[b]? = some (.map es clock) := by
  obtain ⟨D, ⟨es, clock, hh, _⟩, _⟩ := h
  exact ⟨es, clock, hh⟩
theorem PM.not_cells (h : PM w b n L) {g : Nat} {t : TypeId} {cs : Array Value} (hb : Blk w g t cs) : g ≠ b := by
  obtain ⟨es, clock, hh⟩ := h.block
  intro e
  subst e
  unfold Blk at hb
  rw [hh] at hb
  cases hb
theorem int_lit {i j : Int} (h : i ≠ j) : Lit.int .i64 i ≠ .int .i64 j := by intro e; injection e with _ e; exact h e
theorem PM.put_view {D : DataW Value} (hD : IsMap D) (hv : ∀ i : Int, has D (.int .i64 i) = (kf L i).isSome ∧ ∀ p, kf L i = some p → ∀ z, D.atKey (.int .i64 i) z = .held (.agg (pvA p))) {p : Pt} (hn : kf L p.1 = none) (i : Int) :
    has (D.put (.int .i64 p.1) (.held (.agg (pvA p)))) (.int .i64 i) = (kf (L ++ [p]) i).isSome ∧ ∀ q, kf (L ++ [p]) i = some q → ∀ z, (D.put (.int .i64 p.1) (.held (.agg (pvA p)))).atKey (.int .i64 i) z = .held (.agg (pvA q)) := by
  have hk : kf (L ++ [p]) i = (kf L i).or (if p.1 = i then some p else none) := by
    unfold kf
    rw [List.find?_append]
    congr 1
    rw [List.find?_cons]
    by_cases e : p.1 = i
    · rw [if_pos e, show (p.1 == i) = true from by simpa using e]
    · rw [if_neg e, show (p.1 == i) = false from by simpa using e]
      rfl
  rw [hk]
  by_cases e : p.1 = i
  · subst e
    rw [hn, if_pos rfl, has_put_same hD (key_int _ _)]
    refine ⟨rfl, fun q hq z => ?_⟩
    rw [atKey_put_same hD (key_int _ _)]
    rw [show p = q from Option.some.inj hq]
  · rw [if_neg e, has_put_other (int_lit fun h => e h.symm), Option.or_none]
    refine ⟨(hv i).1, fun q hq z => ?_⟩
    rw [atKey_put_other (int_lit fun h => e h.symm)]
    exact (hv i).2 q hq z
theorem PM.del_view {D : DataW Value} (hv : ∀ i : Int, has D (.int .i64 i) = (kf L i).isSome ∧ ∀ p, kf L i = some p → ∀ z, D.atKey (.int .i64 i) z = .held (.agg (pvA p))) (d : Int) (i : Int) :
    has (D.del (.int .i64 d)) (.int .i64 i) = (kf (L.filter fun p => decide (p.1 ≠ d)) i).isSome ∧ ∀ q, kf (L.filter fun p => decide (p.1 ≠ d)) i = some q → ∀ z, (D.del (.int .i64 d)).atKey (.int .i64 i) z = .held (.agg (pvA q)) := by
  rw [kf_filter (fun j => decide (j ≠ d))]
  by_cases e : i = d
  · subst e
    rw [if_neg (by simp), has_del_same]
    exact ⟨rfl, fun q hq => by cases hq⟩
  · rw [if_pos (by simpa using e), has_del_other (int_lit e)]
    refine ⟨(hv i).1, fun q hq z => ?_⟩
    rw [atKey_del_other (int_lit e)]
    exact (hv i).2 q hq z
end

/-- a row of waits that lies somewhere -/
def wtv (x : Wt) : List Value := [.int .i64 x.1, .int .u64 (x.2.1 : Int), .bool x.2.2]
theorem length_wtv (x : Wt) : (wtv x).length = 3 := rfl
structure WT (w : World) (A : Option Addr) (n c : Nat) (ws : List Wt) : Prop where
  row : Reads w w.heap.size 3 A n (flat wtv ws)
  nc : n ≤ c
  small : n ≤ 1000
  u64 : ∀ x ∈ ws, x.2.1 < 2 ^ 64
theorem WT.len {w : World} {A : Option Addr} {n c : Nat} {ws : List Wt} (h : WT w A n c ws) : ws.length = n := by
  have h1 := h.row.1
  rw [length_flat wtv length_wtv] at h1
  omega
theorem WT.below {w w' : World} {A : Option Addr} {n c : Nat} {ws : List Wt} (h : WT w A n c ws) (hb : Below w.heap.size w w') : WT w' A n c ws := ⟨(h.row.below hb).more hb.size, h.nc, h.small, h.u64⟩
theorem WT.at_ {w : World} {A : Option Addr} {n c : Nat} {ws : List Wt} (h : WT w A n c ws) {k : Nat} {i : Int} {o : Nat} {f : Bool} (hx : ws[k]? = some (i, o, f)) :
    ∃ ad, A = some ad ∧ ad.block < w.heap.size ∧ w.cell? (ad.add (k * 3)) = some (.int .i64 i) ∧ w.cell? ⟨(ad.add (k * 3)).block, (ad.add (k * 3)).off + 1, none⟩ = some (.int .u64 (o : Int)) ∧ w.cell? ⟨(ad.add (k * 3)).block, (ad.add (k * 3)).off + 2, none⟩ = some (.bool f) := by
  obtain ⟨ad, e, hb, hc⟩ := h.row.elem wtv length_wtv hx (by omega)
  refine ⟨ad, e, hb, ?_, ?_, ?_⟩
  · have := hc 0 _ rfl
    rwa [Nat.add_zero] at this
  · have := hc 1 _ rfl
    rwa [add_past ad (k * 3) 0] at this
  · have := hc 2 _ rfl
    rwa [add_past ad (k * 3) 1] at this

theorem kf_take {L : List Pt} (hR : Rise L) {k : Nat} {p : Pt} (hp : L[k]? = some p) : kf (L.take k) p.1 = none := by
  refine kf_none.2 fun q hq e => ?_
  obtain ⟨j, hj⟩ := List.mem_iff_getElem?.1 hq
  rw [List.getElem?_take] at hj
  split at hj
  · rename_i hjk
    obtain ⟨h1, e1⟩ := List.getElem?_eq_some_iff.1 hj
    obtain ⟨h2, e2⟩ := List.getElem?_eq_some_iff.1 hp
    have := (List.pairwise_iff_getElem.1 hR) j k h1 h2 hjk
    rw [e1, e2] at this
    omega
  · cases hj
set_option maxRecDepth 100000 in
set_option maxHeartbeats 4000000 in
theorem parts_any (A : Option Addr) (n c : Nat) (qs : List Rn) (A' : Option Addr) (n' c' : Nat) (ws : List Wt) (w : World) (hG : QR w A n c qs) (hW : WT w A' n' c' ws) (hq : RQ qs) (hw : WR qs ws) :
    Calls Try.prog 36 #[.agg #[.slice A n c], .slice A' n' c'] w fun e w' => ∃ b, e = .returned (.map (some b)) ∧ w.heap.size ≤ b ∧ PM w' b n (pts qs ws) ∧ Below w.heap.size w w'  := by
  have hmm := @run_makeMap Try.prog
  have HG := Lib.hid hG
  have HW := Lib.hid hW
  have HQ := Lib.hid hq
  have HWR := Lib.hid hw
  have HN : Hid (n ≤ 1000) := Lib.hid hG.small
  have HL := Lib.hid hG.len
  have HL' : Hid (ws.length = qs.length) := Lib.hid hw.len
  obtain ⟨K0, GB⟩ := box1 w 26 #[.slice A n c]
  have z0 := (K0.alloc (.map #[] 0)).cell 0
  have KK := K0.alloc (.map #[] 0)
  have M := PM.made (w.alloc (.cells #[.slice A n c] 26))
  have GG := GB.alloc GB.size (.map #[] 0)
  clear hG hW hq hw K0 GB
  go_enter Try.func36, Try.ntmps36
  go_wp2_with fail
  clear z0 KK hmm
  generalize hX : World.alloc _ _ = X at M GG ⊢
  have hsz : (w.alloc (.cells #[.slice A n c] 26)).heap.size = w.heap.size + 1 := by simp
  rw [hsz] at M
  clear hX hsz
  go_loopw [12] (fun iv wr => ∃ k : Nat, k ≤ n ∧ iv = .int .i64 (k : Int) ∧ Hid (PM wr (w.heap.size + 1) k ((pts qs ws).take k)) ∧ Below w.heap.size w wr) (fun iv _ => n - (intOf iv).toNat)
  case atStart => exact ⟨0, by omega, rfl, Lib.hid M, GG⟩
  case round =>
    obtain ⟨k, hk, rfl, HM, hB⟩ := hrel
    by_cases hlt : k < n
    · obtain ⟨⟨i, a, h, l, x⟩, hx⟩ := elem_at (l := qs) (k := k) (by rw [HL.out]; exact hlt)
      obtain ⟨⟨i', o, f⟩, hy⟩ := elem_at (l := ws) (k := k) (by rw [HL'.out, HL.out]; exact hlt)
      obtain rfl : i' = i := (HWR.out.each k _ _ hy hx).1
      obtain ⟨ad, rfl, hb1, c0, c1, c2, c3, c4⟩ := rn_at ((HG.out.below hB).row) hx
      obtain ⟨ad', rfl, hb2, d0, d1, d2⟩ := (HW.out.below hB).at_ hy
      have hkey := Lib.hid (keyi (x := i') (by have := (HQ.out.each _ (List.mem_of_getElem? hx)); rw [rightR_iff] at this; have := this.1; omega) (by have := (HQ.out.each _ (List.mem_of_getElem? hx)); rw [rightR_iff] at this; have := this.1; omega))
      have HP : Hid ((pts qs ws).take (k + 1) = (pts qs ws).take k ++ [(i', (a, h, l, x), o, f)]) := Lib.hid (by rw [List.take_add_one, pts_at hx hy]; rfl)
      have HNo : Hid (kf ((pts qs ws).take k) i' = none) := Lib.hid (kf_take (pts_rise HL'.out HQ.out.rise) (pts_at hx hy))
      obtain ⟨K1, G1⟩ := box1 wr 59 #[.int .i64 i', .int .i64 a, .int .u64 (h : Int), .int .u64 (l : Int), .int .u64 (x : Int)]
      obtain ⟨ad2, e2, _, d0, d1, d2⟩ := ((HW.out.below hB).below G1).at_ hy
      obtain rfl : ad' = ad2 := by injection e2
      have z0 := K1.cell 0
      have z1 := K1.cell 1
      have z2 := K1.cell 2
      have z3 := K1.cell 3
      have z4 := K1.cell 4
      obtain ⟨D, own, hsm, hview⟩ := HM.out
      have own' := (own.alloc (.cells #[.int .i64 i', .int .i64 a, .int .u64 (h : Int), .int .u64 (l : Int), .int .u64 (x : Int)] 59)).drew
      obtain ⟨w1, hrun, own1, turn1⟩ := own'.store (int_keyed Try.underlying3) Try.underlying75 (by unfold maxLen; omega) hkey.out (val := .agg (pvA (i', (a, h, l, x), o, f))) rfl
      have hview' := PM.put_view (p := (i', (a, h, l, x), o, f)) own.isMap hview HNo.out
      have HM2 : Hid (PM w1 (w.heap.size + 1) (k + 1) ((pts qs ws).take (k + 1))) := Lib.hid (by rw [HP.out]; exact ⟨_, own1, by have := HN.out; omega, hview'⟩)
      have HB2 : Hid (Below w.heap.size w w1) := Lib.hid ((hB.alloc hB.size (.cells #[.int .i64 i', .int .i64 a, .int .u64 (h : Int), .int .u64 (l : Int), .int .u64 (x : Int)] 59)).drew.grown turn1.grown (by have := hB.size; simp; omega) (fun g hg => by injection hg with hg; omega))
      unfold pvA at hrun
      have i1 : (0 : Int) ≤ (k : Int) := by omega
      have i2 : (k : Int) < (n : Int) := by omega
      have i3 : (k : Int) < (n' : Int) := by have := HL.out; have := HL'.out; have := HW.out.len; omega
      have hn := HN.out
      clear hx hy hb1 hb2 K1 G1 own own' own1 turn1 hsm hview hview' e2 hB
      go_wp2_with fail
      go_region_with fail
      all_goals go_wp2
      all_goals go_roundw
      all_goals first | exact ⟨k + 1, by omega, by go_num, HM2, HB2.out⟩ | (simp [intOf]; omega)
    · obtain rfl : k = n := by omega
      have HT : Hid ((pts qs ws).take k = pts qs ws) := Lib.hid (List.take_of_length_le (by rw [pts_len HL'.out, HL.out]; exact Nat.le_refl _))
      go_wp2
      go_ret
      exact ⟨_, rfl, by omega, by have := HM.out; rwa [HT.out] at this, hB⟩

end Go.Proofs.Ytngbamoffjlodaa
