/-
  A queue of rows in memory: what has been taken from its front is passed by. No statement is proved here.
-/
import Derived.Test.YtkbgpmgnkegipaaDoorDb
import Derived.Test.YtkbgpmgnkegipaaDoorEf
namespace Go.Proofs.YtkbgpmgnkegipaaDoor
open Go.RowKit Go.Shelf

/-- rows that wait: they lie from some place on in a block -/
structure QU (w : World) (B : Nat) (A : Option Addr) (n c : Nat) (G : List Gg) : Prop where
  len : G.length = n
  row : 0 < n → ∃ g off cur, A = some ⟨g, off, none⟩ ∧ B ≤ g ∧ Blk w g 27 cur ∧ off + c ≤ cur.size ∧ n ≤ c ∧ c ≤ maxLen ∧ (cur.toList.drop off).take n = G.map slG
  mem : ∀ e ∈ G, w.ownsRow B 3 1 (slG e) e.2.1 (vs e.2.2.2)
theorem own_kp {X Y : World} {B b n s : Nat} {t : TypeId} {v : Value} {xs : List Value} (h : X.ownsRow B t s v n xs) (hb : b ≤ B) (k : KpB b X Y) : Y.ownsRow B t s v n xs := by
  refine ⟨h.1, ?_⟩
  rcases h.2 with h2 | ⟨g, cap, cur, h1, h2, h3, h4⟩
  · exact .inl h2
  · exact .inr ⟨g, cap, cur, h1, h2, (k.2 g (by omega) (Array.getElem?_eq_some_iff.1 h3).1).trans h3, h4⟩
theorem QU.kp {X Y : World} {B n c : Nat} {A : Option Addr} {G : List Gg} (h : QU X B A n c G) (k : KpB B X Y) : QU Y B A n c G :=
  ⟨h.len, fun h0 => by
    obtain ⟨g, off, cur, h1, h2, h3, h4⟩ := h.row h0
    exact ⟨g, off, cur, h1, h2, (k.2 g h2 h3.lt).trans h3, h4⟩, fun e he => own_kp (h.mem e he) (Nat.le_refl _) k⟩
theorem kpb_alloc (B : Nat) (X : World) (o : Obj) : KpB B X (X.alloc o) := ⟨by simp, fun k _ hk => Below.heap_alloc X o k hk⟩
theorem kpb_grown {B : Nat} {X Y : World} (h : X.grownBy Y none) : KpB B X Y := ⟨h.size, fun k _ hk => h.block k hk (by simp)⟩
theorem kpb_below {B : Nat} {X Y : World} (h : Below X.heap.size X Y) : KpB B X Y := ⟨h.size, fun k _ hk => h.block k hk⟩
theorem QU.head {w : World} {B n c : Nat} {A : Option Addr} {e : Gg} {G : List Gg} (h : QU w B A n c (e :: G)) : ∃ g off, A = some ⟨g, off, none⟩ ∧ B ≤ g ∧ g < w.heap.size ∧ n ≤ c ∧ w.cell? ⟨g, off, none⟩ = some (slG e) := by
  have hl := h.len
  rw [List.length_cons] at hl
  obtain ⟨g, off, cur, h1, h2, h3, h4, h5, h6, h7⟩ := h.row (by omega)
  refine ⟨g, off, h1, h2, h3.lt, h5, ?_⟩
  rw [h3.cell off]
  have h8 : ((cur.toList.drop off).take n)[0]? = some (slG e) := by rw [h7]; rfl
  rw [List.getElem?_take_of_lt (by omega), List.getElem?_drop, Nat.add_zero] at h8
  rw [← Array.getElem?_toList]
  exact h8
theorem QU.tail {w : World} {B n c g off : Nat} {e : Gg} {G : List Gg} (h : QU w B (some ⟨g, off, none⟩) (n + 1) c (e :: G)) (A : Option Addr) (hA : 0 < n → A = some ⟨g, off + 1, none⟩) : QU w B A n (c - 1) G := by
  have hl := h.len
  rw [List.length_cons] at hl
  refine ⟨by omega, fun h0 => ?_, fun x hx => h.mem x (List.mem_cons_of_mem _ hx)⟩
  obtain ⟨g', off', cur, h1, h2, h3, h4, h5, h6, h7⟩ := h.row (by omega)
  injection h1 with h1
  injection h1 with e1 e2
  subst e1 e2
  refine ⟨g, off + 1, cur, hA h0, h2, h3, by omega, by omega, by omega, ?_⟩
  have h8 := congrArg List.tail h7
  rw [List.map_cons, List.tail_cons] at h8
  rw [← h8, ← List.drop_one, List.drop_take, List.drop_drop, Nat.add_sub_cancel]
theorem QU.off {w : World} {B n c g j : Nat} {A : Option Addr} {G : List Gg} {u : Value} (h : QU w B A n c G) (hg : g < B) : QU (w.setCell ⟨g, j, none⟩ u) B A n c G :=
  h.kp ⟨by simp [World.setCell], fun k hk _ => Below.heap_setCell w _ u k (by dsimp only; omega)⟩

section
variable {F : Fence} {fn : Nat}
/-- a row laid behind all that wait -/
theorem wpListIn_append_q (w : World) {ops : Array Oper} {rest : List Oper} {o : Oper} {a : Act} {Q : Exit → Act → World → Prop}
    (hg : o.guard = none) (s x : Operand) (hop : o.op = Op.call { callee := Callee.builtin Builtin.append, args := #[s, x], argTypes := #[42, 42] })
    (B : Nat) (A : Option Addr) (n c : Nat) (G : List Gg) (hs : a.eval s = .slice A n c) (hQ : QU w B A n c G) (h0 : 0 < n) (e : Gg) (xb : Nat) (hx : a.eval x = .slice (some ⟨xb, 0, none⟩) 1 1) (hX : Blk w xb 27 #[slG e])
    (he : w.ownsRow B 3 1 (slG e) e.2.1 (vs e.2.2.2)) (hB : B ≤ w.heap.size) (hn : n ≤ 1000)
    (hK : ∀ A' c' w', QU w' B A' (n + 1) c' (G ++ [e]) → Below B w w' → (∀ v k xs, w.ownsRow B 3 1 v k xs → w'.ownsRow B 3 1 v k xs) → wpListIn F fn Tryd.prog ops Q rest (a.put o.dst (.slice A' (n + 1) c')) w') :
    wpListIn F fn Tryd.prog ops Q (o :: rest) a w := by
  refine wpListIn_plain hg fun K hK' => ?_
  obtain ⟨i0, hi, hz0, hz1, hz2⟩ := info_parts9 slice_info
  obtain ⟨g, off, cur, rfl, h2, h3, h4, h5, h6, h7⟩ := hQ.row h0
  have hl := hQ.len
  have hnews : ∀ j u, [slG e][j]? = some u → w.cell? ((⟨xb, 0, none⟩ : Addr).add j) = some u := fun j u hj => by
    match j, hj with
    | 0, hj =>
      have : slG e = u := by simpa using hj
      rw [← this, show (⟨xb, 0, none⟩ : Addr).add 0 = ⟨xb, 0, none⟩ by simp [Addr.add], hX.cell 0]
      rfl
    | j + 1, hj => simp at hj
  have hfin : ∀ v' w' (A' : Option Addr) (c' : Nat), (Builtin.append_ #[42, 42] o.type #[.slice (some ⟨g, off, none⟩) n c, .slice (some ⟨xb, 0, none⟩) 1 1]).run Tryd.prog w = .ok v' w' → v' = .slice A' (n + 1) c' →
      QU w' B A' (n + 1) c' (G ++ [e]) → Below B w w' → (∀ v k xs, w.ownsRow B 3 1 v k xs → w'.ownsRow B 3 1 v k xs) → Oper.wpIn F fn Tryd.prog o a w K Q := fun v' w' A' c' hrun hv q1 q2 q3 => by
    subst hv
    unfold Oper.wpIn
    refine ⟨?_, ?_⟩
    · simp [Oper.about, hop, resolve, Target.leads, Sem.run_pure]
    · rw [Oper.semAt_plain F _ _ (by rw [hop]; intro c hc'; cases hc')]
      simp [execOp, hop, resolve, invoke, builtin, hs, hx, hrun, Result.andThen]
      exact hK' _ _ (hK _ _ _ q1 q2 q3)
  by_cases hr : n + 1 ≤ c
  · have hrun := run_append_room_cells (P := Tryd.prog) w 42 o.type 27 i0 Tryd.underlying42 hi g off n c ⟨xb, 0, none⟩ 1 1 [slG e] (by rw [hz1]; rfl) hnews (fun u hu => by rw [List.mem_singleton] at hu; rw [hu]; rfl) hr
      (fun j hj => by
        have : j = 0 := by simpa using hj
        subst this
        rw [hz1, Nat.mul_one, Nat.add_zero, h3.cell (off + n), Array.getElem?_eq_getElem (by omega)]
        rfl)
      (fun j _ => by rw [hz1, Nat.mul_one]; exact h3.frozen _)
    rw [hz1, Nat.mul_one] at hrun
    have hset : w.setCells g (off + n) [slG e] = w.setCell ⟨g, off + n, none⟩ (slG e) := rfl
    rw [hset] at hrun
    have keep : ∀ v k xs, w.ownsRow B 3 1 v k xs → (w.setCell ⟨g, off + n, none⟩ (slG e)).ownsRow B 3 1 v k xs := fun v k xs ho => own_off ho (fun b hb e1 => by
      subst e1
      rcases ho.2 with ⟨h1, _⟩ | ⟨g', cap, cu, h1, _, h8, _⟩
      · rw [h1] at hb; cases hb
      · rw [h1] at hb
        injection hb with hb
        subst hb
        unfold Blk at h3
        rw [h3] at h8
        injection h8 with h8
        injection h8 with _ h8
        exact absurd h8 (by decide)) _ _
    refine hfin _ _ _ _ hrun rfl ⟨by rw [List.length_append, hl]; rfl, fun _ => ⟨g, off, _, rfl, h2, h3.set_ (off + n) (slG e), by rw [Array.size_setIfInBounds]; exact h4, hr, h6, ?_⟩, fun y hy => ?_⟩ ((Below.refl _ _).setCell (p := ⟨g, off + n, none⟩) h2 _) keep
    · have hdl : n < (cur.toList.drop off).length := by rw [List.length_drop, Array.length_toList]; omega
      rw [Array.toList_setIfInBounds, List.drop_set, if_neg (by omega), show off + n - off = n by omega, List.map_append, ← h7, List.take_add_one, List.getElem?_set_self hdl, List.take_set_of_le (Nat.le_refl _)]
      rfl
    · rcases List.mem_append.1 hy with hy | hy
      · exact keep _ _ _ (hQ.mem y hy)
      · rw [List.mem_singleton] at hy
        rw [hy]
        exact keep _ _ _ he
  · obtain ⟨v', w', hrun, r1, r2⟩ := run_append_arg_grows (P := Tryd.prog) w 42 o.type 27 i0 (.slice none 0 0) 1 24 Tryd.underlying42 hi hz0 hz1 hz2 rfl (by decide) ⟨g, off, none⟩ n c (G.map slG) (by rw [List.length_map, hl, Nat.mul_one])
      (fun j u hj => by
        have hjn : j < n := by have := (List.getElem?_eq_some_iff.1 hj).1; rw [List.length_map] at this; omega
        rw [← h7, List.getElem?_take_of_lt hjn, List.getElem?_drop] at hj
        rw [show (⟨g, off, none⟩ : Addr).add j = ⟨g, off + j, none⟩ by simp [Addr.add] <;> omega, h3.cell (off + j), ← Array.getElem?_toList]
        exact hj)
      ⟨xb, 0, none⟩ 1 1 [slG e] rfl hnews (by omega) (by simp only [maxLen]; omega) (by omega)
    have kp : KpB B w w' := kpb_grown r2
    rcases r1.2 with ⟨_, h8⟩ | ⟨g', cap, cur', h8, h9, h10, h11, h12, h13, h14⟩
    · omega
    · refine hfin _ _ _ _ hrun h8 ⟨by rw [List.length_append, hl]; rfl, fun _ => ⟨g', 0, cur', rfl, by omega, h10, by omega, h11, h12, ?_⟩, fun y hy => ?_⟩ ⟨r2.os, r2.tape, r2.output, r2.size, fun k hk => r2.block k (by omega) (by simp)⟩ (fun v k xs ho => own_kp ho (Nat.le_refl _) kp)
      · rw [List.drop_zero, List.map_append]
        rw [Nat.mul_one] at h14
        exact h14
      · rcases List.mem_append.1 hy with hy | hy
        · exact own_kp (hQ.mem y hy) (Nat.le_refl _) kp
        · rw [List.mem_singleton] at hy
          rw [hy]
          exact own_kp he (Nat.le_refl _) kp
end

end Go.Proofs.YtkbgpmgnkegipaaDoor
