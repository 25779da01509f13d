/-
  A row of fractions as a list: words, and plain mathematics. No statement is proved here.
-/
import Derived.Test.YtfgabmelmopgdaaLc
import Derived.Test.YtfgabmelmopgdaaEm
import Derived.Maps.AppendAt
import Derived.Deep.AppendLies
import Derived.Deep.OwnRows
import Derived.OwnWalk
namespace Go.Proofs.Ytfgabmelmopgdaa
open Go.RowKit

def Reads (w : World) (B size : Nat) (A : Option Addr) (n : Nat) (xs : List Value) : Prop :=
  xs.length = n * size ∧ (0 < n → ∃ ad, A = some ad ∧ ad.block < B ∧ ∀ j u, xs[j]? = some u → w.cell? (ad.add j) = some u)

section
variable {w w' : World} {B B' size n : Nat} {A : Option Addr} {xs : List Value}
set_option maxRecDepth 100000 in
theorem Reads.none_ : Reads w B size A 0 [] := ⟨by simp, fun h => absurd h (by omega)⟩
set_option maxRecDepth 100000 in
theorem Reads.at_ {k : Nat} (h : Reads w B 1 A n xs) (hk : k < n) : ∃ ad u, A = some ad ∧ ad.block < B ∧ xs[k]? = some u ∧ w.cell? (ad.add k) = some u := by
  obtain ⟨ad, e, hb, hc⟩ := h.2 (by omega)
  have hl : k < xs.length := by have := h.1; omega
  exact ⟨ad, xs[k], e, hb, List.getElem?_eq_getElem hl, hc k _ (List.getElem?_eq_getElem hl)⟩
set_option maxRecDepth 100000 in
theorem Reads.keep (h : Reads w B size A n xs) (hk : ∀ p : Addr, p.block < B → w'.cell? p = w.cell? p) : Reads w' B size A n xs :=
  ⟨h.1, fun hn => by
    obtain ⟨ad, e, hb, hc⟩ := h.2 hn
    exact ⟨ad, e, hb, fun j u hu => (hk _ (by rw [block_of_add]; exact hb)).trans (hc j u hu)⟩⟩
set_option maxRecDepth 100000 in
theorem Reads.more (h : Reads w B size A n xs) (hB : B ≤ B') : Reads w B' size A n xs :=
  ⟨h.1, fun hn => by
    obtain ⟨ad, e, hb, hc⟩ := h.2 hn
    exact ⟨ad, e, by omega, hc⟩⟩
set_option maxRecDepth 100000 in
theorem Reads.below (h : Reads w B size A n xs) (hb : Below B w w') : Reads w' B size A n xs := h.keep fun _ hp => hb.cell hp
set_option maxRecDepth 100000 in
theorem Reads.drew (h : Reads w B size A n xs) : Reads w.drew B size A n xs := h
set_option maxRecDepth 100000 in
theorem Reads.drewN (h : Reads w B size A n xs) (k : Nat) : Reads (w.drewN k) B size A n xs := h
set_option maxRecDepth 100000 in
theorem Reads.alloc (h : Reads w B size A n xs) (hB : B ≤ w.heap.size) (o : Obj) : Reads (w.alloc o) B size A n xs := h.keep fun p hp => World.cell?_alloc_lt w o p (by omega)
set_option maxRecDepth 100000 in
theorem Reads.setCell (h : Reads w B size A n xs) {p : Addr} (hB : B ≤ p.block) (u : Value) : Reads (w.setCell p u) B size A n xs :=
  h.keep fun q hq => World.cell?_setCell_other w p q u (fun e => by subst e; omega)
set_option maxRecDepth 100000 in
theorem Reads.grown (h : Reads w B size A n xs) {row : Option Nat} (hg : w.grownBy w' row) (hB : B ≤ w.heap.size) (hr : ∀ g, row = some g → B ≤ g) : Reads w' B size A n xs :=
  h.keep fun p hp => World.cell?_of_block (hg.block p.block (by omega) (fun e => by have := hr _ e.symm; omega))
set_option maxRecDepth 100000 in
theorem Reads.cut (h : Reads w B size A n xs) {k cap : Nat} (hk : k ≤ n) (hc : n ≤ cap) :
    Reads w B size (if cap = k then A else A.map (·.add (k * size))) (n - k) (xs.drop (k * size)) := by
  refine ⟨by rw [List.length_drop, h.1, Nat.sub_mul], fun hn => ?_⟩
  obtain ⟨ad, rfl, hb, hcell⟩ := h.2 (by omega)
  rw [if_neg (by omega)]
  refine ⟨ad.add (k * size), rfl, by rw [block_of_add]; exact hb, fun j u hu => ?_⟩
  rw [add_of_add]
  exact hcell _ u (by rw [← hu, List.getElem?_drop])
set_option maxRecDepth 100000 in
theorem Reads.of_own {base : Nat} {e : TypeId} {c : Nat} (h : w.ownsRow base e size (.slice A n c) n xs) : Reads w w.heap.size size A n xs := by
  refine ⟨h.1, fun hn => ?_⟩
  obtain ⟨g, cap, hv, _, hlt⟩ := h.form hn
  have hA : A = some ⟨g, 0, none⟩ := by injection hv
  subst hA
  exact ⟨_, rfl, hlt, h.cells (g := g) rfl⟩
end


section
variable {P : Program} (w : World)

set_option maxRecDepth 100000 in
theorem run_append_of_nil (base : Nat) (t ty e : TypeId) (i : TypeInfo) (size : Nat) (ht : P.underlying t = some (.slice e)) (hi : P.info? e = some i)
    (v : Value) (n : Nat) (xs : List Value) (hown : w.ownsRow base e size v n xs) (c : Nat) : (Builtin.append_ #[t, t] ty #[v, .slice none 0 c]).run P w = .ok v w := by
  rcases hown.2 with ⟨rfl, rfl⟩ | ⟨g, cap, cur, rfl, _, _, hnc, _⟩
  · simp [Builtin.append_, run_underlying ht, sizeOf, typeInfo, hi, Builtin.lenOf, Builtin.firstCells]
  · simp [Builtin.append_, run_underlying ht, sizeOf, typeInfo, hi, Builtin.lenOf, Builtin.firstCells, hnc, storeCells]

set_option maxRecDepth 100000 in
theorem run_append_any (base : Nat) (t ty e : TypeId) (i : TypeInfo) (z : Value) (size bytes : Nat) (ht : P.underlying t = some (.slice e)) (hi : P.info? e = some i) (hz : i.zero = some z)
    (hsize : i.size = size) (hby : i.bytes = bytes) (hzs : z.cells.size = size) (hsz : 0 < size)
    (v : Value) (n : Nat) (xs : List Value) (hown : w.ownsRow base e size v n xs)
    (B : Nat) (A : Option Addr) (m c : Nat) (news : List Value) (hr : Reads w B size A m news) (h1 : ∀ u ∈ news, u.oneCell' = true)
    (h63 : n + m ≤ maxLen) (hbytes : (n + m) * bytes ≤ 140737488355328) (hbase : base ≤ w.heap.size) :
    ∃ v' w', (Builtin.append_ #[t, t] ty #[v, .slice A m c]).run P w = .ok v' w' ∧ w'.ownsRow base e size v' (n + m) (xs ++ news) ∧ w.grownBy w' v.ownBlock ∧
      (v'.ownBlock = v.ownBlock ∨ v'.ownBlock = some w.heap.size) := by
  rcases A with _ | ad
  · have hm : m = 0 := by
      rcases Nat.eq_zero_or_pos m with h0 | h0
      · exact h0
      · obtain ⟨ad, h, _⟩ := hr.2 h0
        cases h
    subst hm
    have hn : news = [] := List.eq_nil_of_length_eq_zero (by simpa using hr.1)
    subst hn
    exact ⟨v, w, run_append_of_nil w base t ty e i size ht hi v n xs hown c, by simpa using hown, World.grownBy.refl w _, .inl rfl⟩
  · have hcells : ∀ j u, news[j]? = some u → w.cell? (ad.add j) = some u := by
      intro j u hu
      rcases Nat.eq_zero_or_pos m with h0 | h0
      · subst h0
        have hn : news = [] := List.eq_nil_of_length_eq_zero (by simpa using hr.1)
        subst hn
        simp at hu
      · obtain ⟨ad', h, _, hc⟩ := hr.2 h0
        injection h with h
        subst h
        exact hc j u hu
    obtain ⟨v', w', hrun, h2, h3, _, h5⟩ := run_append_own_at (P := P) w base t ty e i z size bytes ht hi hz hsize hby hzs hsz v n xs hown ad m c news hr.1 hcells h1 h63 hbytes hbase
    exact ⟨v', w', hrun, h2, h3, h5⟩

set_option maxRecDepth 100000 in
theorem wp_append_any {o : Oper} {a : Act} {K : Act → World → Prop} {Q : Exit → Act → World → Prop} (s x : Operand) (t : TypeId)
    (ho : o.op = .call { callee := .builtin .append, args := #[s, x], argTypes := #[t, t] })
    (base : Nat) (e : TypeId) (i : TypeInfo) (z : Value) (size bytes : Nat) (ht : P.underlying t = some (.slice e)) (hi : P.info? e = some i) (hz : i.zero = some z)
    (hsize : i.size = size) (hby : i.bytes = bytes) (hzs : z.cells.size = size) (hsz : 0 < size)
    (v : Value) (n : Nat) (xs : List Value) (hs : a.eval s = v) (hown : w.ownsRow base e size v n xs)
    (B : Nat) (A : Option Addr) (m c : Nat) (news : List Value) (hx : a.eval x = .slice A m c) (hr : Reads w B size A m news) (h1 : ∀ u ∈ news, u.oneCell' = true)
    (h63 : n + m ≤ maxLen) (hbytes : (n + m) * bytes ≤ 140737488355328) (hbase : base ≤ w.heap.size)
    (h : ∀ v' w', w'.ownsRow base e size v' (n + m) (xs ++ news) → w.grownBy w' v.ownBlock → (v'.ownBlock = v.ownBlock ∨ v'.ownBlock = some w.heap.size) → K (a.put o.dst v') w') : o.wp P a w K Q := by
  obtain ⟨v', w', hrun, h2, h3, h4⟩ := run_append_any (P := P) w base t o.type e i z size bytes ht hi hz hsize hby hzs hsz v n xs hown B A m c news hr h1 h63 hbytes hbase
  unfold Oper.wp execOp
  simp only [ho, resolve, invoke, builtin, Sem.run_bind, Sem.run_pure, Result.andThen_ok, List.map_toArray, List.map_cons, List.map_nil, hs, hx, hrun]
  exact h v' w' h2 h3 h4

set_option maxRecDepth 100000 in
theorem wpList_append_any {ops : Array Oper} {rest : List Oper} {o : Oper} {a : Act} {Q : Exit → Act → World → Prop} (hgd : o.guard = none) (s x : Operand) (t : TypeId)
    (ho : o.op = .call { callee := .builtin .append, args := #[s, x], argTypes := #[t, t] })
    (base : Nat) (e : TypeId) (i : TypeInfo) (z : Value) (size bytes : Nat) (ht : P.underlying t = some (.slice e)) (hi : P.info? e = some i) (hz : i.zero = some z)
    (hsize : i.size = size) (hby : i.bytes = bytes) (hzs : z.cells.size = size) (hsz : 0 < size)
    (v : Value) (n : Nat) (xs : List Value) (hs : a.eval s = v) (hown : w.ownsRow base e size v n xs)
    (B : Nat) (A : Option Addr) (m c : Nat) (news : List Value) (hx : a.eval x = .slice A m c) (hr : Reads w B size A m news) (h1 : ∀ u ∈ news, u.oneCell' = true)
    (h63 : n + m ≤ maxLen) (hbytes : (n + m) * bytes ≤ 140737488355328) (hbase : base ≤ w.heap.size)
    (h : ∀ v' w', w'.ownsRow base e size v' (n + m) (xs ++ news) → w.grownBy w' v.ownBlock → (v'.ownBlock = v.ownBlock ∨ v'.ownBlock = some w.heap.size) → wpList P ops Q rest (a.put o.dst v') w') : wpList P ops Q (o :: rest) a w :=
  wpList_plain hgd fun _ hK => wp_append_any w s x t ho base e i z size bytes ht hi hz hsize hby hzs hsz v n xs hs hown B A m c news hx hr h1 h63 hbytes hbase fun v' w' h2 h3 h4 => hK _ _ (h v' w' h2 h3 h4)

end

/-- one fraction's cells, a row's cells -/
def f3v (f : Nat × Nat × Nat) : List Value := [.int .u64 (f.1 : Int), .int .u64 (f.2.1 : Int), .int .u64 (f.2.2 : Int)]
def fvs (l : List (Nat × Nat × Nat)) : List Value := l.flatMap f3v
set_option maxRecDepth 100000 in
theorem length_fvs (l : List (Nat × Nat × Nat)) : (fvs l).length = l.length * 3 := by
  induction l with
  | nil => rfl
  | cons a l ih =>
    have : fvs (a :: l) = f3v a ++ fvs l := rfl
    rw [this, List.length_append, ih, List.length_cons]
    show 3 + l.length * 3 = (l.length + 1) * 3
    omega
set_option maxRecDepth 100000 in
theorem fvs_append (a b : List (Nat × Nat × Nat)) : fvs (a ++ b) = fvs a ++ fvs b := by simp [fvs]
set_option maxRecDepth 100000 in
theorem fvs_step {l : List (Nat × Nat × Nat)} {k p q x : Nat} (h : l[k]? = some (p, q, x)) : fvs (l.take (k + 1)) = fvs (l.take k) ++ [.int .u64 (p : Int), .int .u64 (q : Int), .int .u64 (x : Int)] := by
  rw [List.take_add_one, h, fvs_append]; rfl
set_option maxRecDepth 100000 in
theorem fvs_ones (l : List (Nat × Nat × Nat)) : ∀ u ∈ fvs l, u.oneCell' = true := by
  intro u hu
  unfold fvs at hu
  obtain ⟨f, _, hf⟩ := List.mem_flatMap.1 hu
  unfold f3v at hf
  simp only [List.mem_cons, List.not_mem_nil, or_false] at hf
  rcases hf with rfl | rfl | rfl <;> rfl
set_option maxRecDepth 100000 in
theorem fvs_at {l : List (Nat × Nat × Nat)} {k p q x : Nat} (h : l[k]? = some (p, q, x)) :
    (fvs l)[k * 3]? = some (.int .u64 (p : Int)) ∧ (fvs l)[k * 3 + 1]? = some (.int .u64 (q : Int)) ∧ (fvs l)[k * 3 + 2]? = some (.int .u64 (x : Int)) := by
  induction l generalizing k with
  | nil => simp at h
  | cons a l ih =>
    have e : fvs (a :: l) = f3v a ++ fvs l := rfl
    have e3 : (f3v a).length = 3 := rfl
    cases k with
    | zero =>
      simp only [List.getElem?_cons_zero, Option.some.injEq] at h
      subst h
      exact ⟨rfl, rfl, rfl⟩
    | succ k =>
      have h' : l[k]? = some (p, q, x) := by simpa using h
      obtain ⟨h0, h1, h2⟩ := ih h'
      rw [e]
      refine ⟨?_, ?_, ?_⟩
      · rw [List.getElem?_append_right (by rw [e3]; omega), e3, show (k + 1) * 3 - 3 = k * 3 by omega]; exact h0
      · rw [List.getElem?_append_right (by rw [e3]; omega), e3, show (k + 1) * 3 + 1 - 3 = k * 3 + 1 by omega]; exact h1
      · rw [List.getElem?_append_right (by rw [e3]; omega), e3, show (k + 1) * 3 + 2 - 3 = k * 3 + 2 by omega]; exact h2
set_option maxRecDepth 100000 in
theorem add_past (ad : Addr) (i j : Nat) : ad.add (i + (j + 1)) = ⟨(ad.add i).block, (ad.add i).off + (j + 1), none⟩ := by
  unfold Addr.add
  rw [if_neg (by omega)]
  by_cases h : i = 0
  · subst h; simp
  · simp [h, Nat.add_assoc]
set_option maxRecDepth 100000 in
theorem Reads.frow {w : World} {B n : Nat} {A : Option Addr} {l : List (Nat × Nat × Nat)} (h : Reads w B 3 A n (fvs l)) : Frow w B A l := fun k p q x hk => by
  have hk' := (List.getElem?_eq_some_iff.1 hk).1
  have hl := h.1
  rw [length_fvs] at hl
  obtain ⟨ad, e, hb, hc⟩ := h.2 (by omega)
  obtain ⟨h0, h1, h2⟩ := fvs_at hk
  have c1 := hc _ _ h1
  have c2 := hc _ _ h2
  rw [add_past ad (k * 3) 0] at c1
  rw [add_past ad (k * 3) 1] at c2
  exact ⟨ad, e, hb, hc _ _ h0, c1, c2⟩

/-- the numbers and the weights of a row -/
def aF (l : List (Nat × Nat × Nat)) (k : Nat) : Nat := (l.getD k (0, 0, 0)).1 * 2 ^ 64 + (l.getD k (0, 0, 0)).2.1
def bF (l : List (Nat × Nat × Nat)) (k : Nat) : Nat := (l.getD k (0, 0, 0)).2.2
set_option maxRecDepth 100000 in
theorem ab_at {l : List (Nat × Nat × Nat)} {k p q x : Nat} (h : l[k]? = some (p, q, x)) : aF l k = p * 2 ^ 64 + q ∧ bF l k = x := by
  unfold aF bF
  rw [List.getD_eq_getElem?_getD, h]
  exact ⟨rfl, rfl⟩
/-- each cell within 64 bits -/
def Small (l : List (Nat × Nat × Nat)) : Prop := ∀ (k p q x : Nat), l[k]? = some (p, q, x) → p < 2 ^ 64 ∧ q < 2 ^ 64 ∧ x < 2 ^ 64
set_option maxRecDepth 100000 in
theorem all_each {l : List (Nat × Nat × Nat)} (h : allB l = true) {k p q x : Nat} (hk : l[k]? = some (p, q, x)) : rightB p x = true := by
  unfold allB at h
  rw [List.all_eq_true] at h
  exact h _ (List.mem_of_getElem? hk)
set_option maxRecDepth 100000 in
theorem each_at {l : List (Nat × Nat × Nat)} {k : Nat} (hk : k < l.length) : ∃ p q x, l[k]? = some (p, q, x) := ⟨_, _, _, List.getElem?_eq_getElem hk⟩
set_option maxRecDepth 100000 in
theorem bF_pos {l : List (Nat × Nat × Nat)} (h : allB l = true) : ∀ j, j < l.length → 0 < bF l j := fun j hj => by
  obtain ⟨p, q, x, hk⟩ := each_at hj
  rw [(ab_at hk).2]
  exact (right_parts (all_each h hk)).1

/-- what a search has found so far -/
def Up (a b : Nat → Nat) (k m : Nat) : Prop := (k = 0 ∧ m = 0) ∨ Top a b k m
def Dn (a b : Nat → Nat) (k m : Nat) : Prop := (k = 0 ∧ m = 0) ∨ Bot a b k m
set_option maxRecDepth 100000 in
theorem Up.yes {a b : Nat → Nat} {k m : Nat} (h : Up a b k m) (hb : ∀ j, j < k → 0 < b j) (hg : a m * b k < a k * b m) : Up a b (k + 1) k := by
  rcases h with ⟨rfl, rfl⟩ | h
  · exact absurd hg (Nat.lt_irrefl _)
  · exact .inr (h.more hb hg)
set_option maxRecDepth 100000 in
theorem Up.no {a b : Nat → Nat} {k m : Nat} (h : Up a b k m) (hg : ¬ a m * b k < a k * b m) : Up a b (k + 1) m := by
  rcases h with ⟨rfl, rfl⟩ | h
  · exact .inr (Top.one a b)
  · exact .inr (h.same hg)
set_option maxRecDepth 100000 in
theorem Dn.yes {a b : Nat → Nat} {k m : Nat} (h : Dn a b k m) (hb : ∀ j, j < k → 0 < b j) (hg : a k * b m < a m * b k) : Dn a b (k + 1) k := by
  rcases h with ⟨rfl, rfl⟩ | h
  · exact absurd hg (Nat.lt_irrefl _)
  · exact .inr (h.more hb hg)
set_option maxRecDepth 100000 in
theorem Dn.no {a b : Nat → Nat} {k m : Nat} (h : Dn a b k m) (hg : ¬ a k * b m < a m * b k) : Dn a b (k + 1) m := by
  rcases h with ⟨rfl, rfl⟩ | h
  · exact .inr (Bot.one a b)
  · exact .inr (h.same hg)
set_option maxRecDepth 100000 in
theorem Up.lt {a b : Nat → Nat} {k m n : Nat} (h : Up a b k m) (hk : k ≤ n) (hn : 0 < n) : m < n := by
  rcases h with ⟨_, rfl⟩ | h
  · exact hn
  · have := h.1; omega
set_option maxRecDepth 100000 in
theorem Dn.lt {a b : Nat → Nat} {k m n : Nat} (h : Dn a b k m) (hk : k ≤ n) (hn : 0 < n) : m < n := by
  rcases h with ⟨_, rfl⟩ | h
  · exact hn
  · have := h.1; omega
set_option maxRecDepth 100000 in
theorem Up.end_ {a b : Nat → Nat} {n m k : Nat} (h : Up a b n m) (hn : 0 < n) (ht : Top a b n k) : m = k := by
  rcases h with ⟨rfl, _⟩ | h
  · omega
  · exact h.unique ht
set_option maxRecDepth 100000 in
theorem Dn.end_ {a b : Nat → Nat} {n m k : Nat} (h : Dn a b n m) (hn : 0 < n) (ht : Bot a b n k) : m = k := by
  rcases h with ⟨rfl, _⟩ | h
  · omega
  · exact h.unique ht
set_option maxRecDepth 100000 in
theorem up_some {a b : Nat → Nat} : ∀ n, (∀ j, j < n → 0 < b j) → ∃ m, Up a b n m
  | 0, _ => ⟨0, .inl ⟨rfl, rfl⟩⟩
  | n + 1, hb => by
    obtain ⟨m, hm⟩ := up_some n (fun j hj => hb j (by omega))
    by_cases hg : a m * b n < a n * b m
    · exact ⟨n, hm.yes (fun j hj => hb j (by omega)) hg⟩
    · exact ⟨m, hm.no hg⟩
set_option maxRecDepth 100000 in
theorem dn_some {a b : Nat → Nat} : ∀ n, (∀ j, j < n → 0 < b j) → ∃ m, Dn a b n m
  | 0, _ => ⟨0, .inl ⟨rfl, rfl⟩⟩
  | n + 1, hb => by
    obtain ⟨m, hm⟩ := dn_some n (fun j hj => hb j (by omega))
    by_cases hg : a n * b m < a m * b n
    · exact ⟨n, hm.yes (fun j hj => hb j (by omega)) hg⟩
    · exact ⟨m, hm.no hg⟩
set_option maxRecDepth 100000 in
theorem top_some {a b : Nat → Nat} {n : Nat} (hn : 0 < n) (hb : ∀ j, j < n → 0 < b j) : ∃ m, Top a b n m := by
  obtain ⟨m, h | h⟩ := up_some (a := a) n hb
  · omega
  · exact ⟨m, h⟩
set_option maxRecDepth 100000 in
theorem bot_some {a b : Nat → Nat} {n : Nat} (hn : 0 < n) (hb : ∀ j, j < n → 0 < b j) : ∃ m, Bot a b n m := by
  obtain ⟨m, h | h⟩ := dn_some (a := a) n hb
  · omega
  · exact ⟨m, h⟩

end Go.Proofs.Ytfgabmelmopgdaa
