/-
  Queues as words: rows of runners; which may be; what comes of them (mathematics). No statement is proved here.
-/
import Derived.Test.YtfgabmelmopgdaaKf
namespace Go.Proofs.Ytfgabmelmopgdaa
open Go.RowKit

/-- a runner: Id, Each, its Time's upper and lower half, its weight -/
abbrev Rn : Type := Int × Int × Nat × Nat × Nat
def rv (r : Rn) : List Value := [.int .i64 r.1, .int .i64 r.2.1, .int .u64 (r.2.2.1 : Int), .int .u64 (r.2.2.2.1 : Int), .int .u64 (r.2.2.2.2 : Int)]
abbrev agR (r : Rn) : Array Value := #[.int .i64 r.1, .int .i64 r.2.1, .int .u64 (r.2.2.1 : Int), .int .u64 (r.2.2.2.1 : Int), .int .u64 (r.2.2.2.2 : Int)]
theorem length_rv (r : Rn) : (rv r).length = 5 := rfl
theorem rv_ones (l : List Rn) : ∀ u ∈ flat rv l, u.oneCell' = true := flat_all rv (fun a u hu => by
  simp only [rv, List.mem_cons, List.not_mem_nil, or_false] at hu
  rcases hu with rfl | rfl | rfl | rfl | rfl <;> rfl) l
theorem rn_info : (Try.prog.info? 40).map (fun i => (i.zero, i.size, i.bytes)) = some (some (.agg #[.int .i64 0, .int .i64 0, .int .u64 0, .int .u64 0, .int .u64 0]), 5, 40) := by kernel_rfl
theorem info_parts9 {P : Program} {e : TypeId} {z : Value} {size bytes : Nat} (h : (P.info? e).map (fun i => (i.zero, i.size, i.bytes)) = some (some z, size, bytes)) :
    ∃ i, P.info? e = some i ∧ i.zero = some z ∧ i.size = size ∧ i.bytes = bytes := by
  cases hi : P.info? e with
  | none => rw [hi] at h; cases h
  | some i =>
    rw [hi] at h
    simp only [Option.map_some, Option.some.injEq, Prod.mk.injEq] at h
    exact ⟨i, rfl, h.1, h.2.1, h.2.2⟩
theorem rns_len {w : World} {B n : Nat} {A : Option Addr} {l : List Rn} (h : Reads w B 5 A n (flat rv l)) : l.length = n := by
  have h1 := h.1
  rw [length_flat rv length_rv] at h1
  omega
theorem rn_at {w : World} {B n : Nat} {A : Option Addr} {l : List Rn} (h : Reads w B 5 A n (flat rv l)) {j : Nat} {a b : Int} {c d e : Nat} (hj : l[j]? = some (a, b, c, d, e)) :
    ∃ ad, A = some ad ∧ ad.block < B ∧ w.cell? (ad.add (j * 5)) = some (.int .i64 a) ∧ w.cell? ⟨(ad.add (j * 5)).block, (ad.add (j * 5)).off + 1, none⟩ = some (.int .i64 b) ∧ w.cell? ⟨(ad.add (j * 5)).block, (ad.add (j * 5)).off + 2, none⟩ = some (.int .u64 (c : Int)) ∧
      w.cell? ⟨(ad.add (j * 5)).block, (ad.add (j * 5)).off + 3, none⟩ = some (.int .u64 (d : Int)) ∧ w.cell? ⟨(ad.add (j * 5)).block, (ad.add (j * 5)).off + 4, none⟩ = some (.int .u64 (e : Int)) := by
  obtain ⟨ad, e, hb, hc⟩ := h.elem rv length_rv hj (by omega)
  have c1 := hc 1 _ rfl
  have c2 := hc 2 _ rfl
  have c3 := hc 3 _ rfl
  have c4 := hc 4 _ rfl
  rw [add_past ad (j * 5) 0] at c1
  rw [add_past ad (j * 5) 1] at c2
  rw [add_past ad (j * 5) 2] at c3
  rw [add_past ad (j * 5) 3] at c4
  exact ⟨ad, e, hb, hc 0 _ rfl, c1, c2, c3, c4⟩

/-- its Time's number, and its weight -/
def rN (r : Rn) : Nat := r.2.2.1 * 2 ^ 64 + r.2.2.2.1
def rW (r : Rn) : Nat := r.2.2.2.2
/-- a runner by its numbers -/
def mkR (id each : Int) (N x : Nat) : Rn := (id, each, N / 2 ^ 64, N % 2 ^ 64, x)
theorem rN_mk (id each : Int) (N x : Nat) : rN (mkR id each N x) = N := by unfold rN mkR; dsimp only; omega
theorem rW_mk (id each : Int) (N x : Nat) : rW (mkR id each N x) = x := rfl
/-- its cells are within 64 bits -/
def UR (r : Rn) : Prop := r.2.2.1 < 2 ^ 64 ∧ r.2.2.2.1 < 2 ^ 64 ∧ r.2.2.2.2 < 2 ^ 64
def UQ (l : List Rn) : Prop := ∀ r ∈ l, UR r
theorem mk_eta {r : Rn} (h : UR r) : mkR r.1 r.2.1 (rN r) (rW r) = r := by
  obtain ⟨a, b, c, d, e⟩ := r
  unfold UR at h
  unfold mkR rN rW
  dsimp only at h ⊢
  rw [show (c * 2 ^ 64 + d) / 2 ^ 64 = c by omega, show (c * 2 ^ 64 + d) % 2 ^ 64 = d by omega]
theorem rN_ext {r s : Rn} (hr : UR r) (hs : UR s) (h1 : r.1 = s.1) (h2 : r.2.1 = s.2.1) (hN : rN r = rN s) (hW : rW r = rW s) : r = s := by rw [← mk_eta hr, ← mk_eta hs, h1, h2, hN, hW]
theorem UR_mk {id each : Int} {N x : Nat} (hN : N < 2 ^ 128) (hx : x < 2 ^ 64) : UR (mkR id each N x) := ⟨by show N / 2 ^ 64 < 2 ^ 64; omega, by show N % 2 ^ 64 < 2 ^ 64; omega, hx⟩
theorem UR.n {r : Rn} (h : UR r) : rN r < 2 ^ 128 := by unfold UR at h; unfold rN; omega
theorem UR.w {r : Rn} (h : UR r) : rW r < 2 ^ 64 := h.2.2
theorem rfr {r : Rn} (h : UR r) : fr r.2.2.1 r.2.2.2.1 r.2.2.2.2 = fq (rN r) (rW r) := (fq_of h.2.1 _).symm

/-- may a runner be, but for its Id? -/
def rightE (r : Rn) : Bool := decide (1 ≤ r.2.1) && decide (r.2.1 ≤ 8) && rightN (rN r) (rW r)
def idB (i : Int) : Bool := decide (1 ≤ i) && decide (i ≤ 16)
def rightR (r : Rn) : Bool := idB r.1 && rightE r
theorem rightR_iff {r : Rn} : rightR r = true ↔ (1 ≤ r.1 ∧ r.1 ≤ 16) ∧ (1 ≤ r.2.1 ∧ r.2.1 ≤ 8) ∧ (1 ≤ rW r ∧ rW r ≤ 65535) ∧ rN r < 2 ^ 100 := by
  unfold rightR rightE idB
  constructor
  · intro h
    simp only [Bool.and_eq_true, decide_eq_true_eq] at h
    have h3 := rightN_true h.2.2
    exact ⟨h.1, h.2.1, ⟨h3.1, h3.2.1⟩, h3.2.2⟩
  · rintro ⟨h1, h2, h3, h4⟩
    simp only [Bool.and_eq_true, decide_eq_true_eq]
    exact ⟨h1, h2, rightN_yes h3.1 h3.2 h4⟩
/-- a queue that may be -/
structure RQ (l : List Rn) : Prop where
  rise : Rise l
  each : ∀ r ∈ l, rightR r = true
def rightQ (l : List Rn) : Bool := riseF 16 0 l && l.all rightR
theorem rightQ_iff {l : List Rn} : rightQ l = true ↔ RQ l := by
  unfold rightQ
  rw [Bool.and_eq_true, riseF_iff, List.all_eq_true]
  constructor
  · rintro ⟨⟨h1, _⟩, h3⟩; exact ⟨h1, h3⟩
  · rintro ⟨h1, h3⟩
    exact ⟨⟨h1, fun x hx => by have := rightR_iff.1 (h3 x hx); omega⟩, h3⟩
theorem rightQ_no {l : List Rn} (h : RQ l → False) : rightQ l = false := by
  cases e : rightQ l with
  | false => rfl
  | true => exact (h (rightQ_iff.1 e)).elim
theorem RQ.len {l : List Rn} (h : RQ l) : l.length ≤ 16 := rise_len h.rise (lo := 0) fun y hy => by
  have := rightR_iff.1 (h.each y hy)
  omega
theorem RQ.nil : RQ [] := ⟨List.Pairwise.nil, fun _ h => by cases h⟩
theorem kf_id {l : List Rn} {i : Int} {r : Rn} (h : kf l i = some r) : r.1 = i := (kf_some h).2
theorem RQ.get {l : List Rn} (h : RQ l) {i : Int} {r : Rn} (hk : kf l i = some r) : rightR r = true := h.each r (kf_some hk).1
theorem RQ.out {l : List Rn} (h : RQ l) {i : Int} (hi : idB i = false) : kf l i = none := kf_none.2 fun y hy e => by
  have := rightR_iff.1 (h.each y hy)
  unfold idB at hi
  simp at hi
  omega
theorem RQ.ins {l : List Rn} (h : RQ l) {r : Rn} (hr : rightR r = true) (hk : kf l r.1 = none) : RQ (insK l r) := ⟨rise_ins h.rise hk, fun y hy => by
  rcases mem_ins.1 hy with rfl | hy
  · exact hr
  · exact h.each y hy⟩
theorem RQ.set {l : List Rn} (h : RQ l) {r s : Rn} (hr : rightR r = true) (hk : kf l r.1 = some s) : RQ (setK l r) := ⟨rise_set h.rise hk, fun y hy => by
  rcases (mem_set h.rise hk).1 hy with rfl | hy
  · exact hr
  · exact h.each y hy.1⟩
theorem RQ.del {l : List Rn} (h : RQ l) {i : Int} {s : Rn} (hk : kf l i = some s) : RQ (delK l i) := ⟨rise_del h.rise i, fun y hy => h.each y ((mem_del h.rise hk).1 hy).1⟩

/-! ### the Times, and the greatest -/
def tms (l : List Rn) : List (Nat × Nat × Nat) := l.map fun r => r.2.2
theorem len_tms (l : List Rn) : (tms l).length = l.length := by simp [tms]
theorem tms_at {l : List Rn} {k : Nat} {r : Rn} (h : l[k]? = some r) : (tms l)[k]? = some r.2.2 := by unfold tms; rw [List.getElem?_map, h]; rfl
theorem tms_small {l : List Rn} (h : UQ l) : Small (tms l) := fun k p q x hk => by
  unfold tms at hk
  rw [List.getElem?_map] at hk
  cases hl : l[k]? with
  | none => rw [hl] at hk; cases hk
  | some r =>
    rw [hl] at hk
    injection hk with hk
    have := h r (List.mem_of_getElem? hl)
    unfold UR at this
    have hk : r.2.2 = (p, q, x) := hk
    rw [hk] at this
    exact this
theorem ab_tms {l : List Rn} {k : Nat} {r : Rn} (h : l[k]? = some r) : aF (tms l) k = rN r ∧ bF (tms l) k = rW r := ab_at (tms_at h)
theorem tms_right {l : List Rn} (hU : UQ l) (h : ∀ r ∈ l, rightR r = true) : allB (tms l) = true := by
  unfold allB tms
  rw [List.all_eq_true]
  intro f hf
  obtain ⟨r, hr, rfl⟩ := List.mem_map.1 hf
  have h1 := rightR_iff.1 (h r hr)
  have q := rightN_of (h := r.2.2.1) (x := r.2.2.2.2) (hU r hr).2.1
  exact q.symm.trans (rightN_yes h1.2.2.1.1 h1.2.2.1.2 h1.2.2.2)
/-- the first of the greatest of the first n -/
def topK (a b : Nat → Nat) : Nat → Nat
  | 0 => 0
  | k + 1 => if a (topK a b k) * b k < a k * b (topK a b k) then k else topK a b k
theorem topK_up {a b : Nat → Nat} : ∀ n, (∀ j, j < n → 0 < b j) → Up a b n (topK a b n)
  | 0, _ => .inl ⟨rfl, rfl⟩
  | n + 1, hb => by
    have ih := topK_up (a := a) n (fun j hj => hb j (by omega))
    unfold topK
    split
    · rename_i hg; exact ih.yes (fun j hj => hb j (by omega)) hg
    · rename_i hg; exact ih.no hg
theorem topK_top {a b : Nat → Nat} {n : Nat} (hn : 0 < n) (hb : ∀ j, j < n → 0 < b j) : Top a b n (topK a b n) := by
  rcases topK_up (a := a) n hb with h | h
  · omega
  · exact h
/-- where the greatest is, among right ones -/
def topI (l : List (Nat × Nat × Nat)) : Nat := topK (aF l) (bF l) l.length
theorem found_some {l : List (Nat × Nat × Nat)} (h0 : 0 < l.length) (h : allB l = true) : Found Top l (topI l) true := .inl ⟨rfl, h0, h, topK_top h0 (bF_pos h)⟩
/-- the greatest Time of a queue -/
def topT (l : List Rn) : Nat × Nat × Nat := (tms l).getD (topI (tms l)) (0, 0, 0)
def fN (f : Nat × Nat × Nat) : Nat := f.1 * 2 ^ 64 + f.2.1
def fW (f : Nat × Nat × Nat) : Nat := f.2.2
theorem topT_spec {l : List Rn} (hU : UQ l) (h : ∀ r ∈ l, rightR r = true) (h0 : 0 < l.length) : (∃ r ∈ l, topT l = r.2.2) ∧ ∀ r ∈ l, rN r * fW (topT l) ≤ fN (topT l) * rW r := by
  have hT := topK_top (a := aF (tms l)) (b := bF (tms l)) (n := (tms l).length) (by rw [len_tms]; exact h0) (bF_pos (tms_right hU h))
  have hlt := hT.1
  obtain ⟨t, ht⟩ := elem_at (l := l) (k := topI (tms l)) (by unfold topI; rw [len_tms] at hlt ⊢; exact hlt)
  have e : topT l = t.2.2 := by unfold topT; rw [List.getD_eq_getElem?_getD, tms_at ht]; rfl
  refine ⟨⟨t, List.mem_of_getElem? ht, e⟩, fun r hr => ?_⟩
  obtain ⟨j, hj⟩ := List.mem_iff_getElem?.1 hr
  have q := hT.2.1 j (by rw [len_tms]; exact (List.getElem?_eq_some_iff.1 hj).1)
  have a1 := ab_tms hj
  have a2 := ab_tms ht
  unfold topI at a2
  rw [a1.1, a1.2, a2.1, a2.2] at q
  rw [e]
  exact q

/-! ### what the calls answer -/
def chkQ (l : List Rn) : Int := if rightQ l = true then 0 else 200
def zeroR : Rn := (0, 0, 0, 0, 0)
def topQ (l : List Rn) : (Nat × Nat × Nat) × Bool := if rightQ l = true ∧ 0 < l.length then (topT l, true) else ((0, 0, 0), false)
def getQ (l : List Rn) (i : Int) : Rn × Bool := if rightQ l = true then (match kf l i with | some r => (r, true) | none => (zeroR, false)) else (zeroR, false)
/-- a Time that is held between two bounds over one weight -/
def heldN (t low top : Nat) : Nat := if t < low then low else if top < t then top else t
def joinT (l : List Rn) (r : Rn) : Nat := overW (fN (topT l)) (rW r) (fW (topT l))
def joinN (l : List Rn) (r : Rn) (boost : Nat) : Nat := heldN (rN r) (joinT l r - min (268435456 * rW r) (boost * r.2.1.toNat)) (joinT l r)
def joinQ (l : List Rn) (r : Rn) (boost : Nat) : List Rn × Int :=
  if rightQ l = false then ([], 200)
  else if (decide (boost ≤ 10000000) && rightR r) = false then ([], 2)
  else if (kf l r.1).isSome = true then ([], 5)
  else if l.length = 0 then ([r], 0)
  else if joinT l r < 2 ^ 100 then (insK l (mkR r.1 r.2.1 (joinN l r boost) (rW r)), 0) else ([], 131)
def leaveQ (l : List Rn) (i : Int) : List Rn × Rn × Int :=
  if rightQ l = false then ([], zeroR, 200) else if idB i = false then ([], zeroR, 2)
  else match kf l i with | some r => (delK l i, r, 0) | none => ([], zeroR, 4)
/-- done to each of these, one after another; none: it is too great -/
def eachF (f : Rn → Option Rn) : List Rn → List Int → Option (List Rn)
  | l, [] => some l
  | l, i :: is => match kf l i with
    | some r => (match f r with | some s => eachF f (setK l s) is | none => none)
    | none => none
def riseI : Int → List Int → Bool
  | _, [] => true
  | last, i :: is => decide (last < i) && decide (i ≤ 16) && riseI i is
def unfoundQ (l : List Rn) (fits : Bool) (is : List Int) : Int :=
  if rightQ l = false then 200 else if (fits && riseI 0 is) = false then 2 else if is.all (fun i => (kf l i).isSome) = true then 0 else 4
def eachQ (f : Rn → Option Rn) (l : List Rn) (fits : Bool) (is : List Int) : List Rn × Int :=
  if unfoundQ l fits is = 0 then (match eachF f l is with | some m => (m, 0) | none => ([], 131)) else ([], unfoundQ l fits is)
def runF (dt : Nat) (r : Rn) : Option Rn := if rN r + r.2.1.toNat * dt < 2 ^ 100 then some (mkR r.1 r.2.1 (rN r + r.2.1.toNat * dt) (rW r)) else none
def runQ (l : List Rn) (is : List Int) (dt : Int) : List Rn × Int := eachQ (runF dt.toNat) l (decide (0 ≤ dt) && decide (dt ≤ 10000000)) is
def weighF (x : Nat) (each : Int) (r : Rn) : Option Rn := if overW (rN r) x (rW r) < 2 ^ 100 then some (mkR r.1 each (overW (rN r) x (rW r)) x) else none
def weighQ (l : List Rn) (is : List Int) (x : Nat) (each : Int) : List Rn × Int := eachQ (weighF x each) l (decide (1 ≤ x) && decide (x ≤ 65535) && (decide (1 ≤ each) && decide (each ≤ 8))) is
/-- what a clip makes of a runner: its Time, lifted where it is below; none: it is too great -/
def clipF (N x : Nat) (r : Rn) : Option Rn := if rN r * x < N * rW r then (if overW N (rW r) x < 2 ^ 100 then some (mkR r.1 r.2.1 (overW N (rW r) x) (rW r)) else none) else some r
def mapF (f : Rn → Option Rn) : List Rn → Option (List Rn)
  | [] => some []
  | r :: l => match f r, mapF f l with | some s, some m => some (s :: m) | _, _ => none
def belowI (N x : Nat) (l : List Rn) : List Int := (l.filter fun r => decide (rN r * x < N * rW r)).map (·.1)
def lowQ (l : List Rn) : Nat := fN (topT l) - 268435456 * fW (topT l)
def clipQ (l : List Rn) : List Rn × List Int × Int :=
  if rightQ l = false then ([], [], 200) else if l.length = 0 then ([], [], 0)
  else match mapF (clipF (lowQ l) (fW (topT l))) l with | some m => (m, belowI (lowQ l) (fW (topT l)) l, 0) | none => ([], [], 131)

end Go.Proofs.Ytfgabmelmopgdaa
