/-
  Maps in which numbers are counted once each; rows of numbers held over their changes. No statement is proved here.
-/
import Derived.Test.YtbhcpkmofnfjgaaGa
import Derived.Maps.OwnOps
import Derived.Maps.Views
import Derived.Maps.OwnSet
namespace Go.Proofs.Ytbhcpkmofnfjgaa
open Go.RowKit Go.Maps

section
variable {H : Type}
/-- the map in which each number of L has been counted once -/
def cnt (L : List Int) : DataW H := L.foldl (fun D x => D.put (.int .i64 x) (.lit (.int .i64 1))) (.map [])
theorem cnt_nil : cnt (H := H) [] = .map [] := rfl
theorem cnt_snoc (L : List Int) (x : Int) : cnt (H := H) (L ++ [x]) = (cnt L).put (.int .i64 x) (.lit (.int .i64 1)) := by
  simp [cnt, List.foldl_append]
theorem key_int (x : Int) : WideAt.IsKeyLit (.int .i64 x) := trivial
theorem cnt_rev {p : List Int → Prop} (h0 : p []) (h1 : ∀ L x, p L → p (L ++ [x])) (L : List Int) : p L := by
  rw [← List.reverse_reverse L]
  induction L.reverse with
  | nil => exact h0
  | cons x r ih => rw [List.reverse_cons]; exact h1 _ _ ih
theorem cnt_tidy (L : List Int) : Tidy (cnt (H := H) L) := by
  refine cnt_rev (p := fun L => Tidy (cnt (H := H) L)) tidy_empty (fun L x h => ?_) L
  rw [cnt_snoc]
  exact h.put (key_int x) _
theorem cnt_at (L : List Int) (x : Int) : (cnt (H := H) L).atKey (.int .i64 x) (.lit (.int .i64 0)) = .lit (.int .i64 (if x ∈ L then 1 else 0)) := by
  refine cnt_rev (p := fun L => (cnt (H := H) L).atKey (.int .i64 x) (.lit (.int .i64 0)) = .lit (.int .i64 (if x ∈ L then 1 else 0))) rfl (fun L y h => ?_) L
  rw [cnt_snoc]
  by_cases e : x = y
  · subst e
    rw [atKey_put_same (cnt_tidy L).isMap (key_int x)]
    simp
  · rw [atKey_put_other (by intro h; injection h with _ h; exact e h), h]
    simp [e]
theorem cnt_has (L : List Int) (x : Int) : has (cnt (H := H) L) (.int .i64 x) = decide (x ∈ L) := by
  refine cnt_rev (p := fun L => has (cnt (H := H) L) (.int .i64 x) = decide (x ∈ L)) rfl (fun L y h => ?_) L
  rw [cnt_snoc]
  by_cases e : x = y
  · subst e
    rw [has_put_same (cnt_tidy L).isMap (key_int x)]
    simp
  · rw [has_put_other (by intro h; injection h with _ h; exact e h), h]
    simp [e]
theorem cnt_size (L : List Int) (h : L.Nodup) : size (cnt (H := H) L) = L.length := by
  refine cnt_rev (p := fun L => L.Nodup → size (cnt (H := H) L) = L.length) (fun _ => rfl) (fun L y ih h => ?_) L h
  rw [List.Nodup, List.pairwise_append] at h
  rw [cnt_snoc, size_put (cnt_tidy L), cnt_has, ih h.1, if_neg (by
    simp only [decide_eq_true_eq]
    intro hy
    exact h.2.2 y hy y (by simp) rfl)]
  simp
/-- counted once: what the walk finds, and what it lays -/
theorem cnt_step (L : List Int) (x : Int) (hx : x ∉ L) {c : Int} (hat : (cnt (H := H) L).atKey (.int .i64 x) (.lit (.int .i64 0)) = .lit (.int .i64 c)) : c = 0 := by
  rw [cnt_at, if_neg hx] at hat
  injection hat with h; injection h with _ h; exact h.symm
/-- looked up: 1 -/
theorem cnt_one (L : List Int) (x : Int) (hx : x ∈ L) {c : Int} (hat : (cnt (H := H) L).atKey (.int .i64 x) (.lit (.int .i64 0)) = .lit (.int .i64 c)) : c = 1 := by
  rw [cnt_at, if_pos hx] at hat
  injection hat with h; injection h with _ h; exact h.symm
end
/-- block b is a map in which the numbers of L have been counted once each -/
structure MC (w : World) (b : Nat) (L : List Int) : Prop where
  own : w.ownsMap Try.prog 3 (plainElem (H := Unit) Try.prog 3) b L.length (cnt L)
section
variable {w w' : World} {b b' : Nat} {L : List Int}
theorem MC.made (w : World) : MC (w.alloc (.map #[] 0)) w.heap.size [] := ⟨World.ownsMap_made _ _ _ _⟩
theorem MC.lt (h : MC w b L) : b < w.heap.size := h.own.lt
theorem MC.alloc (h : MC w b L) (o : Obj) : MC (w.alloc o) b L := ⟨h.own.alloc o⟩
theorem MC.below (h : MC w b L) (hb : Below w.heap.size w w') : MC w' b L := by
  have hlt := h.lt
  obtain ⟨es, clock, hh, F, hs, hD⟩ := h.own
  exact ⟨es, clock, (hb.block b hlt).trans hh, F, hs, hD⟩
theorem MC.other (h : MC w b L) (hg : w.grownBy w' (some b')) (hne : b ≠ b') : MC w' b L := ⟨h.own.kept hg (by simpa using hne)⟩
theorem MC.step {x : Int} (hx : x ∉ L) {c : Int} (hat : (cnt (H := Unit) L).atKey (.int .i64 x) (.lit (.int .i64 0)) = .lit (.int .i64 c))
    (h : w'.ownsMap Try.prog 3 (plainElem (H := Unit) Try.prog 3) b (L.length + 1) ((cnt L).put (.int .i64 x) (.lit (.int .i64 (wrap64 (c + 1)))))) : MC w' b (L ++ [x]) := by
  rw [cnt_step L x hx hat, show wrap64 (0 + 1) = 1 from by unfold wrap64; omega] at h
  refine ⟨?_⟩
  rw [cnt_snoc, List.length_append]
  exact h
/-- what is a map is no row of cells -/
theorem MC.block (h : MC w b L) : ∃ es clock, w.heap[b]? = some (.map es clock) := by
  obtain ⟨es, clock, hh, _⟩ := h.own
  exact ⟨es, clock, hh⟩
theorem Blk.ofMap {g : Nat} {t : TypeId} {cs : Array Value} (h : Blk w g t cs) (m : MC w b L) (hg : w.grownBy w' (some b)) : Blk w' g t cs := by
  obtain ⟨es, clock, hh⟩ := m.block
  refine (hg.block g h.lt (fun e => ?_)).trans h
  injection e with e
  subst e
  unfold Blk at h
  rw [hh] at h
  cases h
theorem block_add (ad : Addr) (j : Nat) : (ad.add j).block = ad.block := by cases ad; unfold Addr.add; first | rfl | (split <;> rfl)
/-- a row of numbers that lies somewhere -/
structure NR (w : World) (A : Option Addr) (n : Nat) (l : List Int) : Prop where
  reads : Reads w w.heap.size 1 A n (vs l)
theorem NR.below {A : Option Addr} {n : Nat} {l : List Int} (h : NR w A n l) (hb : Below w.heap.size w w') : NR w' A n l := ⟨(h.reads.below hb).more hb.size⟩
theorem NR.alloc {A : Option Addr} {n : Nat} {l : List Int} (h : NR w A n l) (o : Obj) : NR (w.alloc o) A n l := h.below ((Below.refl _ _).alloc (Nat.le_refl _) o)
theorem NR.grown {A : Option Addr} {n : Nat} {l : List Int} (h : NR w A n l) (m : MC w b L) (hg : w.grownBy w' (some b)) (hsz : w.heap.size ≤ w'.heap.size) : NR w' A n l := by
  obtain ⟨es, clock, hh⟩ := m.block
  obtain ⟨h1, h2⟩ := h.reads
  refine ⟨h1, fun hn => ?_⟩
  obtain ⟨ad, e, hb, hc⟩ := h2 hn
  refine ⟨ad, e, by omega, fun j u hj => ?_⟩
  have q := hc j u hj
  have hne : some ad.block ≠ some b := by
    intro e
    injection e with e
    subst e
    unfold World.cell? at q
    rw [block_add, hh] at q
    cases q
  rw [World.cell?_of_block (w := w) (by rw [block_add]; exact hg.block ad.block hb hne)]
  exact q
theorem NR.at_ {A : Option Addr} {n : Nat} {l : List Int} (h : NR w A n l) {j : Nat} {x : Int} (hx : l[j]? = some x) : ∃ ad, A = some ad ∧ w.cell? (ad.add j) = some (.int .i64 x) := by
  obtain ⟨h1, h2⟩ := h.reads
  rw [length_vs] at h1
  have := (List.getElem?_eq_some_iff.1 hx).1
  obtain ⟨ad, e, _, hc⟩ := h2 (by omega)
  exact ⟨ad, e, hc j _ (by unfold vs; rw [List.getElem?_map, hx]; rfl)⟩
end
section
variable {P : Program} {ops : Array Oper} {Q : Exit → Act → World → Prop} {a : Act} {w : World} {rest : List Oper} {o : Oper}
/-- a look-up that is wanted (its guard says so), in a map of numbers -/
theorem wpList_lookup_wanted (h0 : Region.wanted o (yielded ops a.tmps) = true) (m x : Operand) (t : TypeId) (hop : o.op = Op.lookup t m x false)
    (k e : TypeId) (q : IntKind) (K : Keyed P k) (ht : P.underlying t = some (.map k e)) (he : P.underlying e = some (.int q)) (hz : (zeroValue e).run P w = .ok (.int q 0) w) (b n : Nat) (D : DataW Unit)
    (hm : a.eval m = .map (some b)) (hown : w.ownsMap P k (plainElem P e) b n D) (key : Value) (kl : Lit) (hx : a.eval x = key) (hkey : keyOf P k key = some kl)
    (hK : ∀ c : Int, D.atKey kl (.lit (.int q 0)) = .lit (.int q c) → (Lit.int q c).wf = true → wpList P ops Q rest (a.put o.dst (.int q c)) w) :
    wpList P ops Q (o :: rest) a w := by
  refine wpList_step fun K' hK' => ?_
  simp only [h0, if_true]
  obtain ⟨c, hrun, hat, hwc⟩ := hown.lookup_int K ht he hz hkey
  unfold Oper.wp
  simp [execOp, hop, hm, hx, hrun, Result.andThen]
  exact hK' _ _ (hK c hat hwc)
/-- the length of a map of numbers, wanted or not guarded -/
theorem wpList_len_wanted (h0 : Region.wanted o (yielded ops a.tmps) = true) (m : Operand) (t : TypeId) (hop : o.op = Op.call { callee := Callee.builtin Builtin.len, args := #[m], argTypes := #[t] })
    (k e : TypeId) (ht : P.underlying t = some (.map k e)) (R : Value → Option (DataW Unit × List MemPlace)) (b n : Nat) (D : DataW Unit) (hm : a.eval m = .map (some b)) (hown : w.ownsMap P k R b n D) (s : Nat) (hs : size D = s)
    (hK : wpList P ops Q rest (a.put o.dst (.int .i64 (s : Int))) w) :
    wpList P ops Q (o :: rest) a w := by
  refine wpList_step fun K' hK' => ?_
  simp only [h0, if_true]
  subst hs
  unfold Oper.wp
  simp [execOp, hop, resolve, invoke, builtin, hm, hown.len ht o.type, Result.andThen]
  exact hK' _ _ hK
end
end Go.Proofs.Ytbhcpkmofnfjgaa
