/-
  Several texts as one.
-/
import Derived.Test.YtngbamoffjlodaaZFs
import Derived.Test.YtngbamoffjlodaaZLe
import Derived.Maps.AppendAt
import Derived.Deep.AppendLies
import Derived.Deep.OwnRows
import Derived.OwnWalk
import Derived.Lib.SmallJoins
/-
  The first greatest and the first least of a row of fractions: plain mathematics (a: the numbers, b: the weights). No statement is proved here.
-/
namespace Go.Proofs.Ytngbamoffjlodaa

/-- k is the first of the greatest of the first n -/
def Top (a b : Nat → Nat) (n k : Nat) : Prop := k < n ∧ (∀ j, j < n → a j * b k ≤ a k * b j) ∧ (∀ j, j < k → a j * b k < a k * b j)
/-- k is the first of the least of the first n -/
def Bot (a b : Nat → Nat) (n k : Nat) : Prop := k < n ∧ (∀ j, j < n → a k * b j ≤ a j * b k) ∧ (∀ j, j < k → a k * b j < a j * b k)

set_option maxRecDepth 100000 in
theorem frac_le_lt {p x q y r z : Nat} (hx : 0 < x) (h1 : p * y ≤ q * x) (h2 : q * z < r * y) : p * z < r * x := by
  have m1 := Nat.mul_le_mul_right z h1
  have m2 := Nat.mul_lt_mul_of_pos_right h2 hx
  have e1 : p * y * z = p * z * y := by rw [Nat.mul_assoc, Nat.mul_comm y z, ← Nat.mul_assoc]
  have e2 : q * x * z = q * z * x := by rw [Nat.mul_assoc, Nat.mul_comm x z, ← Nat.mul_assoc]
  have e3 : r * y * x = r * x * y := by rw [Nat.mul_assoc, Nat.mul_comm y x, ← Nat.mul_assoc]
  exact Nat.lt_of_mul_lt_mul_right (show p * z * y < r * x * y by omega)
set_option maxRecDepth 100000 in
theorem frac_lt_le {p x q y r z : Nat} (hz : 0 < z) (h1 : p * y < q * x) (h2 : q * z ≤ r * y) : p * z < r * x := by
  have m1 := Nat.mul_lt_mul_of_pos_right h1 hz
  have m2 := Nat.mul_le_mul_right x h2
  have e1 : p * y * z = p * z * y := by rw [Nat.mul_assoc, Nat.mul_comm y z, ← Nat.mul_assoc]
  have e2 : q * x * z = q * z * x := by rw [Nat.mul_assoc, Nat.mul_comm x z, ← Nat.mul_assoc]
  have e3 : r * y * x = r * x * y := by rw [Nat.mul_assoc, Nat.mul_comm y x, ← Nat.mul_assoc]
  exact Nat.lt_of_mul_lt_mul_right (show p * z * y < r * x * y by omega)

set_option maxRecDepth 100000 in
theorem Top.one (a b : Nat → Nat) : Top a b 1 0 := ⟨by omega, fun j hj => by rw [show j = 0 by omega]; exact Nat.le_refl _, fun j hj => by omega⟩
set_option maxRecDepth 100000 in
theorem Bot.one (a b : Nat → Nat) : Bot a b 1 0 := ⟨by omega, fun j hj => by rw [show j = 0 by omega]; exact Nat.le_refl _, fun j hj => by omega⟩
set_option maxRecDepth 100000 in
theorem Top.more {a b : Nat → Nat} {n k : Nat} (h : Top a b n k) (hb : ∀ j, j < n → 0 < b j) (hg : a k * b n < a n * b k) : Top a b (n + 1) n := by
  have go : ∀ j, j < n → a j * b n < a n * b j := fun j hj => frac_le_lt (hb j hj) (h.2.1 j hj) hg
  refine ⟨by omega, fun j hj => ?_, go⟩
  rcases Nat.lt_or_ge j n with hh | hh
  · exact Nat.le_of_lt (go j hh)
  · rw [show j = n by omega]; exact Nat.le_refl _
set_option maxRecDepth 100000 in
theorem Top.same {a b : Nat → Nat} {n k : Nat} (h : Top a b n k) (hg : ¬ a k * b n < a n * b k) : Top a b (n + 1) k := by
  refine ⟨by have := h.1; omega, fun j hj => ?_, h.2.2⟩
  rcases Nat.lt_or_ge j n with hh | hh
  · exact h.2.1 j hh
  · rw [show j = n by omega]; omega
set_option maxRecDepth 100000 in
theorem Bot.more {a b : Nat → Nat} {n k : Nat} (h : Bot a b n k) (hb : ∀ j, j < n → 0 < b j) (hg : a n * b k < a k * b n) : Bot a b (n + 1) n := by
  have go : ∀ j, j < n → a n * b j < a j * b n := fun j hj => frac_lt_le (hb j hj) hg (h.2.1 j hj)
  refine ⟨by omega, fun j hj => ?_, go⟩
  rcases Nat.lt_or_ge j n with hh | hh
  · exact Nat.le_of_lt (go j hh)
  · rw [show j = n by omega]; exact Nat.le_refl _
set_option maxRecDepth 100000 in
theorem Bot.same {a b : Nat → Nat} {n k : Nat} (h : Bot a b n k) (hg : ¬ a n * b k < a k * b n) : Bot a b (n + 1) k := by
  refine ⟨by have := h.1; omega, fun j hj => ?_, h.2.2⟩
  rcases Nat.lt_or_ge j n with hh | hh
  · exact h.2.1 j hh
  · rw [show j = n by omega]; omega
set_option maxRecDepth 100000 in
theorem Top.unique {a b : Nat → Nat} {n k k' : Nat} (h : Top a b n k) (h' : Top a b n k') : k = k' := by
  rcases Nat.lt_trichotomy k k' with hl | he | hl
  · have e1 := h'.2.2 k hl
    have e2 := h.2.1 k' h'.1
    omega
  · exact he
  · have e1 := h.2.2 k' hl
    have e2 := h'.2.1 k h.1
    omega
set_option maxRecDepth 100000 in
theorem Bot.unique {a b : Nat → Nat} {n k k' : Nat} (h : Bot a b n k) (h' : Bot a b n k') : k = k' := by
  rcases Nat.lt_trichotomy k k' with hl | he | hl
  · have e1 := h'.2.2 k hl
    have e2 := h.2.1 k' h'.1
    omega
  · exact he
  · have e1 := h.2.2 k' hl
    have e2 := h'.2.1 k h.1
    omega

end Go.Proofs.Ytngbamoffjlodaa
/-
  A row of fractions as a list: words, and plain mathematics. No statement is proved here.
-/
namespace Go.Proofs.Ytngbamoffjlodaa
open Go.RowKit

def Reads (w : World) (B size : Nat) (A : Option Addr) (n : Nat) (xs : List Value) : Prop :=
  xs.length = n * size ∧ (0 < n → ∃ ad, A = some ad ∧ ad.block < B ∧ ∀ j u, xs[j]? = some u → w.cell? (ad.add j) = some u)

section
variable {w w' : World} {B B' size n : Nat} {A : Option Addr} {xs : List Value}
set_option maxRecDepth 100000 in
theorem Reads.none_ : Reads w B size A 0 [] := ⟨by simp, fun h => absurd h (by omega)⟩
set_option maxRecDepth 100000 in
theorem Reads.at_ {k : Nat} (h : Reads w B 1 A n xs) (hk : k < n) : ∃ ad u, A = some ad ∧ ad.block < B ∧ xs[k]? = some u ∧ w.cell? (ad.add k) = some u := by
  obtain ⟨ad, e, hb, hc⟩ := h.2 (by omega)
  have hl : k < xs.length := by have := h.1; omega
  exact ⟨ad, xs[k], e, hb, List.getElem?_eq_getElem hl, hc k _ (List.getElem?_eq_getElem hl)⟩
set_option maxRecDepth 100000 in
theorem Reads.keep (h : Reads w B size A n xs) (hk : ∀ p : Addr, p.block < B → w'.cell? p = w.cell? p) : Reads w' B size A n xs :=
  ⟨h.1, fun hn => by
    obtain ⟨ad, e, hb, hc⟩ := h.2 hn
    exact ⟨ad, e, hb, fun j u hu => (hk _ (by rw [block_of_add]; exact hb)).trans (hc j u hu)⟩⟩
set_option maxRecDepth 100000 in
theorem Reads.more (h : Reads w B size A n xs) (hB : B ≤ B') : Reads w B' size A n xs :=
  ⟨h.1, fun hn => by
    obtain ⟨ad, e, hb, hc⟩ := h.2 hn
    exact ⟨ad, e, by omega, hc⟩⟩
set_option maxRecDepth 100000 in
theorem Reads.below (h : Reads w B size A n xs) (hb : Below B w w') : Reads w' B size A n xs := h.keep fun _ hp => hb.cell hp
set_option maxRecDepth 100000 in
theorem Reads.drew (h : Reads w B size A n xs) : Reads w.drew B size A n xs := h
set_option maxRecDepth 100000 in
theorem Reads.drewN (h : Reads w B size A n xs) (k : Nat) : Reads (w.drewN k) B size A n xs := h
set_option maxRecDepth 100000 in
theorem Reads.alloc (h : Reads w B size A n xs) (hB : B ≤ w.heap.size) (o : Obj) : Reads (w.alloc o) B size A n xs := h.keep fun p hp => World.cell?_alloc_lt w o p (by omega)
set_option maxRecDepth 100000 in
theorem Reads.setCell (h : Reads w B size A n xs) {p : Addr} (hB : B ≤ p.block) (u : Value) : Reads (w.setCell p u) B size A n xs :=
  h.keep fun q hq => World.cell?_setCell_other w p q u (fun e => by subst e; omega)
set_option maxRecDepth 100000 in
theorem Reads.grown (h : Reads w B size A n xs) {row : Option Nat} (hg : w.grownBy w' row) (hB : B ≤ w.heap.size) (hr : ∀ g, row = some g → B ≤ g) : Reads w' B size A n xs :=
  h.keep fun p hp => World.cell?_of_block (hg.block p.block (by omega) (fun e => by have := hr _ e.symm; omega))
set_option maxRecDepth 100000 in
theorem Reads.of_own {base : Nat} {e : TypeId} {c : Nat} (h : w.ownsRow base e size (.slice A n c) n xs) : Reads w w.heap.size size A n xs := by
  refine ⟨h.1, fun hn => ?_⟩
  obtain ⟨g, cap, hv, _, hlt⟩ := h.form hn
  have hA : A = some ⟨g, 0, none⟩ := by injection hv
  subst hA
  exact ⟨_, rfl, hlt, h.cells (g := g) rfl⟩
end


section
variable {P : Program} (w : World)

set_option maxRecDepth 100000 in
theorem run_append_of_nil (base : Nat) (t ty e : TypeId) (i : TypeInfo) (size : Nat) (ht : P.underlying t = some (.slice e)) (hi : P.info? e = some i)
    (v : Value) (n : Nat) (xs : List Value) (hown : w.ownsRow base e size v n xs) (c : Nat) : (Builtin.append_ #[t, t] ty #[v, .slice none 0 c]).run P w = .ok v w := by
  rcases hown.2 with ⟨rfl, rfl⟩ | ⟨g, cap, cur, rfl, _, _, hnc, _⟩
  · simp [Builtin.append_, run_underlying ht, sizeOf, typeInfo, hi, Builtin.lenOf, Builtin.firstCells]
  · simp [Builtin.append_, run_underlying ht, sizeOf, typeInfo, hi, Builtin.lenOf, Builtin.firstCells, hnc, storeCells]

set_option maxRecDepth 100000 in
theorem run_append_any (base : Nat) (t ty e : TypeId) (i : TypeInfo) (z : Value) (size bytes : Nat) (ht : P.underlying t = some (.slice e)) (hi : P.info? e = some i) (hz : i.zero = some z)
    (hsize : i.size = size) (hby : i.bytes = bytes) (hzs : z.cells.size = size) (hsz : 0 < size)
    (v : Value) (n : Nat) (xs : List Value) (hown : w.ownsRow base e size v n xs)
    (B : Nat) (A : Option Addr) (m c : Nat) (news : List Value) (hr : Reads w B size A m news) (h1 : ∀ u ∈ news, u.oneCell' = true)
    (h63 : n + m ≤ maxLen) (hbytes : (n + m) * bytes ≤ 140737488355328) (hbase : base ≤ w.heap.size) :
    ∃ v' w', (Builtin.append_ #[t, t] ty #[v, .slice A m c]).run P w = .ok v' w' ∧ w'.ownsRow base e size v' (n + m) (xs ++ news) ∧ w.grownBy w' v.ownBlock ∧
      (v'.ownBlock = v.ownBlock ∨ v'.ownBlock = some w.heap.size) := by
  rcases A with _ | ad
  · have hm : m = 0 := by
      rcases Nat.eq_zero_or_pos m with h0 | h0
      · exact h0
      · obtain ⟨ad, h, _⟩ := hr.2 h0
        cases h
    subst hm
    have hn : news = [] := List.eq_nil_of_length_eq_zero (by simpa using hr.1)
    subst hn
    exact ⟨v, w, run_append_of_nil w base t ty e i size ht hi v n xs hown c, by simpa using hown, World.grownBy.refl w _, .inl rfl⟩
  · have hcells : ∀ j u, news[j]? = some u → w.cell? (ad.add j) = some u := by
      intro j u hu
      rcases Nat.eq_zero_or_pos m with h0 | h0
      · subst h0
        have hn : news = [] := List.eq_nil_of_length_eq_zero (by simpa using hr.1)
        subst hn
        simp at hu
      · obtain ⟨ad', h, _, hc⟩ := hr.2 h0
        injection h with h
        subst h
        exact hc j u hu
    obtain ⟨v', w', hrun, h2, h3, _, h5⟩ := run_append_own_at (P := P) w base t ty e i z size bytes ht hi hz hsize hby hzs hsz v n xs hown ad m c news hr.1 hcells h1 h63 hbytes hbase
    exact ⟨v', w', hrun, h2, h3, h5⟩

set_option maxRecDepth 100000 in
theorem wp_append_any {o : Oper} {a : Act} {K : Act → World → Prop} {Q : Exit → Act → World → Prop} (s x : Operand) (t : TypeId)
    (ho : o.op = .call { callee := .builtin .append, args := #[s, x], argTypes := #[t, t] })
    (base : Nat) (e : TypeId) (i : TypeInfo) (z : Value) (size bytes : Nat) (ht : P.underlying t = some (.slice e)) (hi : P.info? e = some i) (hz : i.zero = some z)
    (hsize : i.size = size) (hby : i.bytes = bytes) (hzs : z.cells.size = size) (hsz : 0 < size)
    (v : Value) (n : Nat) (xs : List Value) (hs : a.eval s = v) (hown : w.ownsRow base e size v n xs)
    (B : Nat) (A : Option Addr) (m c : Nat) (news : List Value) (hx : a.eval x = .slice A m c) (hr : Reads w B size A m news) (h1 : ∀ u ∈ news, u.oneCell' = true)
    (h63 : n + m ≤ maxLen) (hbytes : (n + m) * bytes ≤ 140737488355328) (hbase : base ≤ w.heap.size)
    (h : ∀ v' w', w'.ownsRow base e size v' (n + m) (xs ++ news) → w.grownBy w' v.ownBlock → (v'.ownBlock = v.ownBlock ∨ v'.ownBlock = some w.heap.size) → K (a.put o.dst v') w') : o.wp P a w K Q := by
  obtain ⟨v', w', hrun, h2, h3, h4⟩ := run_append_any (P := P) w base t o.type e i z size bytes ht hi hz hsize hby hzs hsz v n xs hown B A m c news hr h1 h63 hbytes hbase
  unfold Oper.wp execOp
  simp only [ho, resolve, invoke, builtin, Sem.run_bind, Sem.run_pure, Result.andThen_ok, List.map_toArray, List.map_cons, List.map_nil, hs, hx, hrun]
  exact h v' w' h2 h3 h4

set_option maxRecDepth 100000 in
theorem wpList_append_any {ops : Array Oper} {rest : List Oper} {o : Oper} {a : Act} {Q : Exit → Act → World → Prop} (hgd : o.guard = none) (s x : Operand) (t : TypeId)
    (ho : o.op = .call { callee := .builtin .append, args := #[s, x], argTypes := #[t, t] })
    (base : Nat) (e : TypeId) (i : TypeInfo) (z : Value) (size bytes : Nat) (ht : P.underlying t = some (.slice e)) (hi : P.info? e = some i) (hz : i.zero = some z)
    (hsize : i.size = size) (hby : i.bytes = bytes) (hzs : z.cells.size = size) (hsz : 0 < size)
    (v : Value) (n : Nat) (xs : List Value) (hs : a.eval s = v) (hown : w.ownsRow base e size v n xs)
    (B : Nat) (A : Option Addr) (m c : Nat) (news : List Value) (hx : a.eval x = .slice A m c) (hr : Reads w B size A m news) (h1 : ∀ u ∈ news, u.oneCell' = true)
    (h63 : n + m ≤ maxLen) (hbytes : (n + m) * bytes ≤ 140737488355328) (hbase : base ≤ w.heap.size)
    (h : ∀ v' w', w'.ownsRow base e size v' (n + m) (xs ++ news) → w.grownBy w' v.ownBlock → (v'.ownBlock = v.ownBlock ∨ v'.ownBlock = some w.heap.size) → wpList P ops Q rest (a.put o.dst v') w') : wpList P ops Q (o :: rest) a w :=
  wpList_plain hgd fun _ hK => wp_append_any w s x t ho base e i z size bytes ht hi hz hsize hby hzs hsz v n xs hs hown B A m c news hx hr h1 h63 hbytes hbase fun v' w' h2 h3 h4 => hK _ _ (h v' w' h2 h3 h4)

end

/-- one fraction's cells, a row's cells -/
def f3v (f : Nat × Nat × Nat) : List Value := [.int .u64 (f.1 : Int), .int .u64 (f.2.1 : Int), .int .u64 (f.2.2 : Int)]
def fvs (l : List (Nat × Nat × Nat)) : List Value := l.flatMap f3v
set_option maxRecDepth 100000 in
theorem length_fvs (l : List (Nat × Nat × Nat)) : (fvs l).length = l.length * 3 := by
  induction l with
  | nil => rfl
  | cons a l ih =>
    have : fvs (a :: l) = f3v a ++ fvs l := rfl
    rw [this, List.length_append, ih, List.length_cons]
    show 3 + l.length * 3 = (l.length + 1) * 3
    omega
set_option maxRecDepth 100000 in
theorem fvs_append (a b : List (Nat × Nat × Nat)) : fvs (a ++ b) = fvs a ++ fvs b := by simp [fvs]
set_option maxRecDepth 100000 in
theorem fvs_step {l : List (Nat × Nat × Nat)} {k p q x : Nat} (h : l[k]? = some (p, q, x)) : fvs (l.take (k + 1)) = fvs (l.take k) ++ [.int .u64 (p : Int), .int .u64 (q : Int), .int .u64 (x : Int)] := by
  rw [List.take_add_one, h, fvs_append]; rfl
set_option maxRecDepth 100000 in
theorem fvs_ones (l : List (Nat × Nat × Nat)) : ∀ u ∈ fvs l, u.oneCell' = true := by
  intro u hu
  unfold fvs at hu
  obtain ⟨f, _, hf⟩ := List.mem_flatMap.1 hu
  unfold f3v at hf
  simp only [List.mem_cons, List.not_mem_nil, or_false] at hf
  rcases hf with rfl | rfl | rfl <;> rfl
set_option maxRecDepth 100000 in
theorem fvs_at {l : List (Nat × Nat × Nat)} {k p q x : Nat} (h : l[k]? = some (p, q, x)) :
    (fvs l)[k * 3]? = some (.int .u64 (p : Int)) ∧ (fvs l)[k * 3 + 1]? = some (.int .u64 (q : Int)) ∧ (fvs l)[k * 3 + 2]? = some (.int .u64 (x : Int)) := by
  induction l generalizing k with
  | nil => simp at h
  | cons a l ih =>
    have e : fvs (a :: l) = f3v a ++ fvs l := rfl
    have e3 : (f3v a).length = 3 := rfl
    cases k with
    | zero =>
      simp only [List.getElem?_cons_zero, Option.some.injEq] at h
      subst h
      exact ⟨rfl, rfl, rfl⟩
    | succ k =>
      have h' : l[k]? = some (p, q, x) := by simpa using h
      obtain ⟨h0, h1, h2⟩ := ih h'
      rw [e]
      refine ⟨?_, ?_, ?_⟩
      · rw [List.getElem?_append_right (by rw [e3]; omega), e3, show (k + 1) * 3 - 3 = k * 3 by omega]; exact h0
      · rw [List.getElem?_append_right (by rw [e3]; omega), e3, show (k + 1) * 3 + 1 - 3 = k * 3 + 1 by omega]; exact h1
      · rw [List.getElem?_append_right (by rw [e3]; omega), e3, show (k + 1) * 3 + 2 - 3 = k * 3 + 2 by omega]; exact h2
set_option maxRecDepth 100000 in
theorem add_past (ad : Addr) (i j : Nat) : ad.add (i + (j + 1)) = ⟨(ad.add i).block, (ad.add i).off + (j + 1), none⟩ := by
  unfold Addr.add
  rw [if_neg (by omega)]
  by_cases h : i = 0
  · subst h; simp
  · simp [h, Nat.add_assoc]
set_option maxRecDepth 100000 in
theorem Reads.frow {w : World} {B n : Nat} {A : Option Addr} {l : List (Nat × Nat × Nat)} (h : Reads w B 3 A n (fvs l)) : Frow w B A l := fun k p q x hk => by
  have hk' := (List.getElem?_eq_some_iff.1 hk).1
  have hl := h.1
  rw [length_fvs] at hl
  obtain ⟨ad, e, hb, hc⟩ := h.2 (by omega)
  obtain ⟨h0, h1, h2⟩ := fvs_at hk
  have c1 := hc _ _ h1
  have c2 := hc _ _ h2
  rw [add_past ad (k * 3) 0] at c1
  rw [add_past ad (k * 3) 1] at c2
  exact ⟨ad, e, hb, hc _ _ h0, c1, c2⟩

/-- the numbers and the weights of a row -/
def aF (l : List (Nat × Nat × Nat)) (k : Nat) : Nat := (l.getD k (0, 0, 0)).1 * 2 ^ 64 + (l.getD k (0, 0, 0)).2.1
def bF (l : List (Nat × Nat × Nat)) (k : Nat) : Nat := (l.getD k (0, 0, 0)).2.2
set_option maxRecDepth 100000 in
theorem ab_at {l : List (Nat × Nat × Nat)} {k p q x : Nat} (h : l[k]? = some (p, q, x)) : aF l k = p * 2 ^ 64 + q ∧ bF l k = x := by
  unfold aF bF
  rw [List.getD_eq_getElem?_getD, h]
  exact ⟨rfl, rfl⟩
/-- each cell within 64 bits -/
def Small (l : List (Nat × Nat × Nat)) : Prop := ∀ (k p q x : Nat), l[k]? = some (p, q, x) → p < 2 ^ 64 ∧ q < 2 ^ 64 ∧ x < 2 ^ 64
set_option maxRecDepth 100000 in
theorem all_each {l : List (Nat × Nat × Nat)} (h : allB l = true) {k p q x : Nat} (hk : l[k]? = some (p, q, x)) : rightB p x = true := by
  unfold allB at h
  rw [List.all_eq_true] at h
  exact h _ (List.mem_of_getElem? hk)
set_option maxRecDepth 100000 in
theorem each_at {l : List (Nat × Nat × Nat)} {k : Nat} (hk : k < l.length) : ∃ p q x, l[k]? = some (p, q, x) := ⟨_, _, _, List.getElem?_eq_getElem hk⟩
set_option maxRecDepth 100000 in
theorem bF_pos {l : List (Nat × Nat × Nat)} (h : allB l = true) : ∀ j, j < l.length → 0 < bF l j := fun j hj => by
  obtain ⟨p, q, x, hk⟩ := each_at hj
  rw [(ab_at hk).2]
  exact (right_parts (all_each h hk)).1

/-- what a search has found so far -/
def Up (a b : Nat → Nat) (k m : Nat) : Prop := (k = 0 ∧ m = 0) ∨ Top a b k m
def Dn (a b : Nat → Nat) (k m : Nat) : Prop := (k = 0 ∧ m = 0) ∨ Bot a b k m
set_option maxRecDepth 100000 in
theorem Up.yes {a b : Nat → Nat} {k m : Nat} (h : Up a b k m) (hb : ∀ j, j < k → 0 < b j) (hg : a m * b k < a k * b m) : Up a b (k + 1) k := by
  rcases h with ⟨rfl, rfl⟩ | h
  · exact absurd hg (Nat.lt_irrefl _)
  · exact .inr (h.more hb hg)
set_option maxRecDepth 100000 in
theorem Up.no {a b : Nat → Nat} {k m : Nat} (h : Up a b k m) (hg : ¬ a m * b k < a k * b m) : Up a b (k + 1) m := by
  rcases h with ⟨rfl, rfl⟩ | h
  · exact .inr (Top.one a b)
  · exact .inr (h.same hg)
set_option maxRecDepth 100000 in
theorem Dn.yes {a b : Nat → Nat} {k m : Nat} (h : Dn a b k m) (hb : ∀ j, j < k → 0 < b j) (hg : a k * b m < a m * b k) : Dn a b (k + 1) k := by
  rcases h with ⟨rfl, rfl⟩ | h
  · exact absurd hg (Nat.lt_irrefl _)
  · exact .inr (h.more hb hg)
set_option maxRecDepth 100000 in
theorem Dn.no {a b : Nat → Nat} {k m : Nat} (h : Dn a b k m) (hg : ¬ a k * b m < a m * b k) : Dn a b (k + 1) m := by
  rcases h with ⟨rfl, rfl⟩ | h
  · exact .inr (Bot.one a b)
  · exact .inr (h.same hg)
set_option maxRecDepth 100000 in
theorem Up.lt {a b : Nat → Nat} {k m n : Nat} (h : Up a b k m) (hk : k ≤ n) (hn : 0 < n) : m < n := by
  rcases h with ⟨_, rfl⟩ | h
  · exact hn
  · have := h.1; omega
set_option maxRecDepth 100000 in
theorem Dn.lt {a b : Nat → Nat} {k m n : Nat} (h : Dn a b k m) (hk : k ≤ n) (hn : 0 < n) : m < n := by
  rcases h with ⟨_, rfl⟩ | h
  · exact hn
  · have := h.1; omega
set_option maxRecDepth 100000 in
theorem Up.end_ {a b : Nat → Nat} {n m k : Nat} (h : Up a b n m) (hn : 0 < n) (ht : Top a b n k) : m = k := by
  rcases h with ⟨rfl, _⟩ | h
  · omega
  · exact h.unique ht
set_option maxRecDepth 100000 in
theorem Dn.end_ {a b : Nat → Nat} {n m k : Nat} (h : Dn a b n m) (hn : 0 < n) (ht : Bot a b n k) : m = k := by
  rcases h with ⟨rfl, _⟩ | h
  · omega
  · exact h.unique ht
end Go.Proofs.Ytngbamoffjlodaa
/-
  The landed frac: the first beyond which none is. No statement is proved here.
-/
namespace Go.Proofs.Ytngbamoffjlodaa
open Go.RowKit

set_option maxRecDepth 100000 in
set_option maxHeartbeats 4000000 in
theorem first_top (ad : Addr) (n c : Nat) (l : List (Nat × Nat × Nat)) (w : World) (hl : l.length = n) (hn0 : 0 < n) (hn : n ≤ maxLen) (hs : Small l) (ha : allB l = true) (hr : Frow w w.heap.size (some ad) l) (k0 : Nat) (ht : Top (aF l) (bF l) n k0) :
    Calls Try.prog 106 #[.slice (some ad) n c, .func (.func 80) #[] #[]] w (Said (.int .i64 (k0 : Int)) w) := by
  unfold maxLen at hn
  have HR := Lib.hid hr
  have HL := Lib.hid hl
  have HS := Lib.hid hs
  have HA := Lib.hid ha
  have HT := Lib.hid ht
  have HN0 := Lib.hid hn0
  clear hr hl hs ha ht hn0
  go_enter Try.func106, Try.ntmps106
  go_wp2_with fail
  go_loopw [5, 10] (fun f i wr => ∃ k m : Nat, k ≤ n ∧ m < n ∧ f = .int .i64 (m : Int) ∧ i = .int .i64 (k : Int) ∧ Hid (Up (aF l) (bF l) k m) ∧ Below w.heap.size w wr) (fun _ i _ => n - (intOf i).toNat)
  case atStart => exact ⟨0, 0, by omega, HN0.out, rfl, rfl, Lib.hid (.inl ⟨rfl, rfl⟩), Below.refl _ _⟩
  case round =>
    obtain ⟨k, m, hk, hm, rfl, rfl, HU0, hB⟩ := hrel
    by_cases hlt : k < n
    · obtain ⟨p, q, x, hm1⟩ := each_at (l := l) (k := k) (by rw [HL.out]; exact hlt)
      obtain ⟨p', q', x', hm2⟩ := each_at (l := l) (k := m) (by rw [HL.out]; exact hm)
      obtain ⟨ad2, e, hb, d0, d1, d2⟩ := (HR.out.below hB (Nat.le_refl _)) k p q x hm1
      obtain rfl := Option.some.inj e
      have HM2 := Lib.hid hm2
      have s1 := HS.out k p q x hm1
      have s2 := HS.out m p' q' x' hm2
      have r1 := right_parts (all_each HA.out hm1)
      have r2 := right_parts (all_each HA.out hm2)
      have hv := fun u => vabove_any p q x p' q' x' u s1.1 s1.2.1 r1.2.1 s2.1 s2.2.1 r2.2.1 (by omega) (by omega)
      have t1 := ab_at hm1
      have t2 := ab_at hm2
      have hpos : ∀ j, j < k → 0 < bF l j := fun j hj => bF_pos HA.out j (by rw [HL.out]; omega)
      rw [← t1.1, ← t2.1] at hv
      rw [← t1.2, ← t2.2] at hv
      by_cases hg : aF l m * bF l k < aF l k * bF l m
      · rw [decide_eq_true hg] at hv
        rw [t1.2, t2.2] at hv
        have HV := Lib.hid hv
        have HU := Lib.hid (HU0.out.yes hpos hg)
        have hsz := hB.size
        have m1 : (0 : Int) ≤ (m : Int) := by omega
        have m2 : (m : Int) < (n : Int) := by omega
        clear hg hv t1 t2 r1 r2 s1 s2 hm1 hm2 hpos HU0 e
        go_upto_region 5 with fail
        have FA := Blk.new wr 93 #[.int .u64 (p : Int), .int .u64 (q : Int), .int .u64 (x : Int)]
        have FR := HR.out.below (hB.alloc hsz (.cells #[.int .u64 (p : Int), .int .u64 (q : Int), .int .u64 (x : Int)] 93)) (Nat.le_refl _)
        have GB := hB.alloc hsz (.cells #[.int .u64 (p : Int), .int .u64 (q : Int), .int .u64 (x : Int)] 93)
        clear d0 d1 d2 hB
        generalize wr.alloc (.cells #[.int .u64 (p : Int), .int .u64 (q : Int), .int .u64 (x : Int)] 93) = V0 at FA FR GB ⊢
        replace FA : Blk V0.drew _ _ _ := FA
        replace FR : Frow V0.drew _ _ _ := FR
        replace GB := GB.drew
        refine wp_region_held_drew (S := fun W => Blk W wr.heap.size 93 #[.int .u64 (p : Int), .int .u64 (q : Int), .int .u64 (x : Int)] ∧ Frow W w.heap.size (some ad) l) (by kernel_rfl) ⟨FA, FR⟩ (fun hS => ?_)
        generalize V0.drew = V at FA FR GB hS ⊢
        refine wpAnyH_take (i := 0) (v := .func (.func 80) #[] #[]) rfl (by kernel_rfl) (by kernel_rfl) (by kernel_rfl) (fun _ _ _ h => h) (Or.inl ⟨by rfl, fun u hSw => (by go_simp)⟩) hS ?_
        refine wpAnyH_take (i := 1) (v := .agg #[.int .u64 (p : Int), .int .u64 (q : Int), .int .u64 (x : Int)]) rfl (by kernel_rfl) (by kernel_rfl) (by kernel_rfl) (fun _ _ _ h => h) (Or.inl ⟨by rfl, fun u hSw => (by have c0 : u.cell? ⟨wr.heap.size, 0, none⟩ = some (.int .u64 (p : Int)) := hSw.1.cell 0; have c1 : u.cell? ⟨wr.heap.size, 1, none⟩ = some (.int .u64 (q : Int)) := hSw.1.cell 1; have c2 : u.cell? ⟨wr.heap.size, 2, none⟩ = some (.int .u64 (x : Int)) := hSw.1.cell 2; go_simp)⟩) hS ?_
        refine wpAnyH_take (i := 2) (v := .slice (some ad) n c) rfl (by kernel_rfl) (by kernel_rfl) (by kernel_rfl) (fun _ _ _ h => h) (Or.inl ⟨by rfl, fun u hSw => (by go_simp)⟩) hS ?_
        refine wpAnyH_take (i := 3) (v := .int .i64 (m : Int)) rfl (by kernel_rfl) (by kernel_rfl) (by kernel_rfl) (fun _ _ _ h => h) (Or.inl ⟨by rfl, fun u hSw => (by go_simp)⟩) hS ?_
        refine wpAnyH_take (i := 4) (v := .pointer (some (ad.add (m * 3)))) rfl (by kernel_rfl) (by kernel_rfl) (by kernel_rfl) (fun _ _ _ h => h) (Or.inl ⟨by rfl, fun u hSw => (by go_simp)⟩) hS ?_
        refine wpAnyH_take (i := 5) (v := .agg #[.int .u64 (p' : Int), .int .u64 (q' : Int), .int .u64 (x' : Int)]) rfl (by kernel_rfl) (by kernel_rfl) (by kernel_rfl) (fun _ _ _ h => h) (Or.inl ⟨by rfl, fun u hSw => (by obtain ⟨ad2, e, _, c0, c1, c2⟩ := hSw.2 m p' q' x' HM2.out; obtain rfl := Option.some.inj e; go_simp)⟩) hS ?_
        refine wpAnyH_ready (rs := [6]) (by kernel_rfl) (by simp) ?_
        refine AllReadyH.cons rfl (fun K hK => ?_) AllReadyH.nil
        go_simp
        refine (HV.out _).mono ?_
        rintro e w1 ⟨rfl, h1⟩
        replace FA := FA.below h1 FA.lt
        replace FR := FR.below h1 (by have := GB.size; omega)
        replace GB := GB.trans (h1.mono GB.size)
        clear h1
        refine hK.out _ _ ⟨FA, FR⟩ (fun hS => ?_)
        clear hK K
        refine wpAnyH_done (by kernel_rfl) ?_ _
        clear hS FA FR
        go_wp2
        go_roundw
        case rel => exact ⟨k + 1, k, by omega, hlt, rfl, by go_num, HU, GB⟩
        case measure => simp [intOf]; omega
      · rw [decide_eq_false hg] at hv
        rw [t1.2, t2.2] at hv
        have HV := Lib.hid hv
        have HU := Lib.hid (HU0.out.no hg)
        have hsz := hB.size
        have m1 : (0 : Int) ≤ (m : Int) := by omega
        have m2 : (m : Int) < (n : Int) := by omega
        clear hg hv t1 t2 r1 r2 s1 s2 hm1 hm2 hpos HU0 e
        go_upto_region 5 with fail
        have FA := Blk.new wr 93 #[.int .u64 (p : Int), .int .u64 (q : Int), .int .u64 (x : Int)]
        have FR := HR.out.below (hB.alloc hsz (.cells #[.int .u64 (p : Int), .int .u64 (q : Int), .int .u64 (x : Int)] 93)) (Nat.le_refl _)
        have GB := hB.alloc hsz (.cells #[.int .u64 (p : Int), .int .u64 (q : Int), .int .u64 (x : Int)] 93)
        clear d0 d1 d2 hB
        generalize wr.alloc (.cells #[.int .u64 (p : Int), .int .u64 (q : Int), .int .u64 (x : Int)] 93) = V0 at FA FR GB ⊢
        replace FA : Blk V0.drew _ _ _ := FA
        replace FR : Frow V0.drew _ _ _ := FR
        replace GB := GB.drew
        refine wp_region_held_drew (S := fun W => Blk W wr.heap.size 93 #[.int .u64 (p : Int), .int .u64 (q : Int), .int .u64 (x : Int)] ∧ Frow W w.heap.size (some ad) l) (by kernel_rfl) ⟨FA, FR⟩ (fun hS => ?_)
        generalize V0.drew = V at FA FR GB hS ⊢
        refine wpAnyH_take (i := 0) (v := .func (.func 80) #[] #[]) rfl (by kernel_rfl) (by kernel_rfl) (by kernel_rfl) (fun _ _ _ h => h) (Or.inl ⟨by rfl, fun u hSw => (by go_simp)⟩) hS ?_
        refine wpAnyH_take (i := 1) (v := .agg #[.int .u64 (p : Int), .int .u64 (q : Int), .int .u64 (x : Int)]) rfl (by kernel_rfl) (by kernel_rfl) (by kernel_rfl) (fun _ _ _ h => h) (Or.inl ⟨by rfl, fun u hSw => (by have c0 : u.cell? ⟨wr.heap.size, 0, none⟩ = some (.int .u64 (p : Int)) := hSw.1.cell 0; have c1 : u.cell? ⟨wr.heap.size, 1, none⟩ = some (.int .u64 (q : Int)) := hSw.1.cell 1; have c2 : u.cell? ⟨wr.heap.size, 2, none⟩ = some (.int .u64 (x : Int)) := hSw.1.cell 2; go_simp)⟩) hS ?_
        refine wpAnyH_take (i := 2) (v := .slice (some ad) n c) rfl (by kernel_rfl) (by kernel_rfl) (by kernel_rfl) (fun _ _ _ h => h) (Or.inl ⟨by rfl, fun u hSw => (by go_simp)⟩) hS ?_
        refine wpAnyH_take (i := 3) (v := .int .i64 (m : Int)) rfl (by kernel_rfl) (by kernel_rfl) (by kernel_rfl) (fun _ _ _ h => h) (Or.inl ⟨by rfl, fun u hSw => (by go_simp)⟩) hS ?_
        refine wpAnyH_take (i := 4) (v := .pointer (some (ad.add (m * 3)))) rfl (by kernel_rfl) (by kernel_rfl) (by kernel_rfl) (fun _ _ _ h => h) (Or.inl ⟨by rfl, fun u hSw => (by go_simp)⟩) hS ?_
        refine wpAnyH_take (i := 5) (v := .agg #[.int .u64 (p' : Int), .int .u64 (q' : Int), .int .u64 (x' : Int)]) rfl (by kernel_rfl) (by kernel_rfl) (by kernel_rfl) (fun _ _ _ h => h) (Or.inl ⟨by rfl, fun u hSw => (by obtain ⟨ad2, e, _, c0, c1, c2⟩ := hSw.2 m p' q' x' HM2.out; obtain rfl := Option.some.inj e; go_simp)⟩) hS ?_
        refine wpAnyH_ready (rs := [6]) (by kernel_rfl) (by simp) ?_
        refine AllReadyH.cons rfl (fun K hK => ?_) AllReadyH.nil
        go_simp
        refine (HV.out _).mono ?_
        rintro e w1 ⟨rfl, h1⟩
        replace FA := FA.below h1 FA.lt
        replace FR := FR.below h1 (by have := GB.size; omega)
        replace GB := GB.trans (h1.mono GB.size)
        clear h1
        refine hK.out _ _ ⟨FA, FR⟩ (fun hS => ?_)
        clear hK K
        refine wpAnyH_done (by kernel_rfl) ?_ _
        clear hS FA FR
        go_wp2
        go_roundw
        case rel => exact ⟨k + 1, m, by omega, hm, rfl, by go_num, HU, GB⟩
        case measure => simp [intOf]; omega
    · obtain rfl : n = k := by omega
      have HE := Lib.hid (HU0.out.end_ HN0.out HT.out)
      go_wp2
      go_ret
      exact ⟨retI (by rw [HE.out]), hB⟩


end Go.Proofs.Ytngbamoffjlodaa
/-
  The landed frac: outermost, Most, Least. No statement is proved here.
-/
namespace Go.Proofs.Ytngbamoffjlodaa
open Go.RowKit

set_option maxRecDepth 100000 in
theorem value_info : (Try.prog.info? 93).map (fun i => (i.zero, i.size, i.bytes)) = some (some (.agg #[.int .u64 0, .int .u64 0, .int .u64 0]), 3, 24) := by kernel_rfl
set_option maxRecDepth 100000 in
theorem cells3_new (w : World) (o : Obj) (a b c : Value) (t : TypeId) : ∀ j u, [a, b, c][j]? = some u → ((w.alloc o).alloc (.cells #[a, b, c] t)).cell? ((⟨w.heap.size + 1, 0, none⟩ : Addr).add j) = some u := by
  intro j u hj
  have hB : Blk ((w.alloc o).alloc (.cells #[a, b, c] t)) (w.heap.size + 1) t #[a, b, c] := by
    have := Blk.new (w.alloc o) t #[a, b, c]
    simpa using this
  match j, hj with
  | 0, hj => simp at hj; subst hj; exact hB.cell 0
  | 1, hj => simp at hj; subst hj; exact hB.cell 1
  | 2, hj => simp at hj; subst hj; exact hB.cell 2
/-- what a search over all of them answers -/
def Found (T : (Nat → Nat) → (Nat → Nat) → Nat → Nat → Prop) (l : List (Nat × Nat × Nat)) (k0 : Nat) (okb : Bool) : Prop :=
  (okb = true ∧ 0 < l.length ∧ allB l = true ∧ T (aF l) (bF l) l.length k0) ∨ (okb = false ∧ k0 = 0 ∧ (l.length = 0 ∨ allB l = false))
set_option maxRecDepth 100000 in
theorem Found.none_ {T : (Nat → Nat) → (Nat → Nat) → Nat → Nat → Prop} {l : List (Nat × Nat × Nat)} {k0 : Nat} {okb : Bool} (h : Found T l k0 okb) (h2 : l.length = 0 ∨ allB l = false) : k0 = 0 ∧ okb = false := by
  rcases h with ⟨_, h3, h4, _⟩ | ⟨h3, h4, _⟩
  · rcases h2 with h2 | h2
    · omega
    · rw [h4] at h2; cases h2
  · exact ⟨h4, h3⟩
set_option maxRecDepth 100000 in
theorem Found.some_ {T : (Nat → Nat) → (Nat → Nat) → Nat → Nat → Prop} {l : List (Nat × Nat × Nat)} {k0 n : Nat} {okb : Bool} (h : Found T l k0 okb) (hn : 0 < l.length) (ha : allB l = true) (hl : l.length = n := by assumption) : okb = true ∧ T (aF l) (bF l) n k0 := by
  rcases h with ⟨h1, _, _, h4⟩ | ⟨_, _, h3 | h3⟩
  · exact ⟨h1, hl ▸ h4⟩
  · omega
  · rw [ha] at h3; cases h3

set_option maxRecDepth 100000 in
set_option maxHeartbeats 4000000 in
theorem outer_top (A : Option Addr) (n c : Nat) (l : List (Nat × Nat × Nat)) (w : World) (hl : l.length = n) (hn : n ≤ 100) (hs : Small l) (hr : Frow w w.heap.size A l) (k0 : Nat) (okb : Bool) (hk0 : Found Top l k0 okb) :
    Calls Try.prog 79 #[.slice A n c, .func (.func 80) #[] #[]] w (Said (.tuple #[.int .i64 (k0 : Int), .bool okb]) w) := by
  obtain ⟨i0, hi0, hz0, hz1, hz2⟩ := info_parts value_info
  have HC := Lib.hid (checkall_any A n c l w hl (by unfold maxLen; omega) hr)
  by_cases h0 : n = 0
  · obtain ⟨rfl, rfl⟩ := hk0.none_ (.inl (by omega))
    have e0 : ((n : Int) == 0) = true := by simp; omega
    clear h0 hl hs hr hk0 hi0 hz0 hz1 hz2 HC
    go_enter Try.func79, Try.ntmps79
    go_wp2
    go_ret2
    exact ⟨rfl, Below.refl _ _⟩
  · have e0 : ((n : Int) == 0) = false := by simp; omega
    cases ha : allB l with
    | false =>
      obtain ⟨rfl, rfl⟩ := hk0.none_ (.inr ha)
      rw [show allE l = 150 by unfold allE; rw [ha]; rfl] at HC
      clear h0 hl hs hr hk0 ha hi0 hz0 hz1 hz2
      go_enter Try.func79, Try.ntmps79
      go_wp2_with fail
      refine HC.out.mono ?_
      rintro e w1 ⟨rfl, h1⟩
      go_wp2
      go_ret2
      exact ⟨rfl, h1⟩
    | true =>
      obtain ⟨rfl, ht⟩ := hk0.some_ (by omega) ha
      rw [show allE l = 0 by unfold allE; rw [ha]; rfl] at HC
      have HT := Lib.hid ht
      have HR := Lib.hid hr
      have HL := Lib.hid hl
      have HS := Lib.hid hs
      have HA := Lib.hid ha
      have HN := Lib.hid (show 0 < n by omega)
      clear h0 hl hs hr hk0 ha ht
      go_enter Try.func79, Try.ntmps79
      go_wp2_with fail
      refine HC.out.mono ?_
      rintro e w1 ⟨rfl, h1⟩
      clear HC
      go_wp2_with fail
      go_loopw [6, 19] (fun v i wr => ∃ k : Nat, k ≤ n ∧ i = .int .i64 (k : Int) ∧ wr.ownsRow w.heap.size 93 3 v k (fvs (l.take k)) ∧ Below w.heap.size w wr) (fun _ i _ => n - (intOf i).toNat)
      case atStart => exact ⟨0, by omega, rfl, World.ownsRow_nil _ _ _ _, h1⟩
      case round =>
        obtain ⟨k, hk, rfl, hO, hB⟩ := hrel
        by_cases hlt : k < n
        · obtain ⟨p, q, x, hm⟩ := each_at (l := l) (k := k) (by rw [HL.out]; exact hlt)
          obtain ⟨ad, rfl, hb, d0, d1, d2⟩ := (HR.out.below hB (Nat.le_refl _)) k p q x hm
          have HM := Lib.hid (fvs_step hm)
          have HO := Lib.hid hO
          have hsz := hB.size
          clear hm hO
          go_wp2_with (
            at_builtin
            refine wpList_append_own _ rfl (.tmp 23) (.tmp 25) 152 rfl w.heap.size 93 i0 (.agg #[.int .u64 0, .int .u64 0, .int .u64 0]) 3 24 Try.underlying152 hi0 hz0 hz1 hz2 rfl (by decide) _ k _ rfl ((HO.out.alloc _).alloc _) ⟨_, 0, none⟩ 1 1 [.int .u64 (p : Int), .int .u64 (q : Int), .int .u64 (x : Int)] rfl rfl (cells3_new _ _ _ _ _ _) (by simp [Value.oneCell']) (by simp only [maxLen]; omega) (by omega) (by simp; omega) ?_
            intro v2 w2 hown2 hg2 _)
          have hO2 : w2.ownsRow w.heap.size 93 3 v2 (k + 1) (fvs (l.take (k + 1))) := by
            rw [HM.out]
            exact hown2
          have hB2 : Below w.heap.size w w2 := ((hB.alloc hsz _).alloc (by simp; omega) _).grown hg2 (by simp; omega) (fun g hg => (HO.out.lt g hg).1)
          go_roundw
          case rel => exact ⟨k + 1, by omega, by go_num, hO2, hB2⟩
          case measure => simp [intOf]; omega
        · obtain rfl : n = k := by omega
          rw [show l.take n = l by rw [← HL.out]; exact List.take_length] at hO
          obtain ⟨g, cap, rfl, hg1, hg2⟩ := hO.form HN.out
          have HF := Lib.hid (first_top ⟨g, 0, none⟩ n cap l wr HL.out HN.out (by unfold maxLen; omega) HS.out HA.out (Reads.of_own hO).frow k0 HT.out)
          clear hO
          go_wp2_with fail
          refine HF.out.mono ?_
          rintro e w3 ⟨rfl, h3⟩
          go_wp2
          go_ret2
          exact ⟨rfl, hB.trans (h3.mono hB.size)⟩


set_option maxRecDepth 100000 in
set_option maxHeartbeats 1000000 in
theorem most_any (A : Option Addr) (n c : Nat) (l : List (Nat × Nat × Nat)) (w : World) (hl : l.length = n) (hn : n ≤ 100) (hs : Small l) (hr : Frow w w.heap.size A l) (k0 : Nat) (okb : Bool) (hk0 : Found Top l k0 okb) :
    Calls Try.prog 60 #[.slice A n c] w (Said (.tuple #[.int .i64 (k0 : Int), .bool okb]) w) := by
  have H := Lib.hid (outer_top A n c l w hl hn hs hr k0 okb hk0)
  clear hl hn hs hr hk0
  go_enter Try.func60, Try.ntmps60
  go_wp2_with fail
  refine H.out.mono ?_
  rintro e w1 ⟨rfl, h1⟩
  go_wp2
  go_ret2
  exact ⟨rfl, h1⟩


end Go.Proofs.Ytngbamoffjlodaa
