/-
  Plain mathematics: each pCPU of a pool is in it alone; all pools' pCPUs counted. No statement is proved here.
-/
import Derived.Test.YtnckfgnhlnichaaDoorVo
namespace Go.Proofs.YtnckfgnhlnichaaDoor
open Go.RowKit

theorem of_at {l : List Nat} (hr : rightP l = true) {i x c : Nat} (hx : l[i]? = some x) (hc : c < 8) (hb : x.testBit c = true) : ofR l (c : Int) = ((i : Int), true) := by
  have h1 : cntL l c = 1 := by
    have h2 := cntL_has (c := c) hx
    rw [bitN_pos.2 hb] at h2
    have h3 := cnt_one8 hr hc
    omega
  have h3 := (of_cnt hc).2 h1
  unfold ofR
  rw [if_pos hr]
  obtain ⟨q, hq⟩ : ∃ q, ofV l (c : Int) = q := ⟨_, rfl⟩
  obtain ⟨o1, o2⟩ := q
  rw [hq] at h3
  obtain rfl : o2 = true := h3
  obtain ⟨j, rfl, hj, hjb, hu⟩ := of_there hq
  have := hu i (List.getElem?_eq_some_iff.1 hx).1 (by rw [getD_at hx, has_bit hc]; exact hb)
  rw [hq, this]
theorem set_at {l : List Nat} (hr : rightP l = true) {i x : Nat} (hx : l[i]? = some x) : setR l (i : Int) = x := by
  have hi := (List.getElem?_eq_some_iff.1 hx).1
  unfold setR
  rw [if_pos ⟨hr, poolB_nat hi⟩, Int.toNat_natCast, getD_at hx]
theorem orK_lt {l : List Nat} (hs : setsB l = true) : ∀ k, k ≤ l.length → orK l k < 256
  | 0, _ => by simp [orK]
  | k + 1, h => Nat.or_lt_two_pow (n := 8) (orK_lt hs k (by omega)) (sets_at hs (at_getD (l := l) (k := k) (by omega))).1
theorem cpus_lt {l : List Nat} (hr : rightP l = true) : cpusR l < 256 := by
  unfold cpusR
  rw [if_pos hr]
  exact orK_lt (right_parts8 hr).2.2.1 _ (Nat.le_refl _)
theorem card_or {l : List Nat} (hr : rightP l = true) : cardN (cpusR l) = sumK l l.length := by
  obtain ⟨_, _, hs, _⟩ := right_parts8 hr
  rw [card_bits (cpus_lt hr), sum_tot hs _ (Nat.le_refl _), List.take_length]
  have hb : ∀ c, c < 8 → bitN (cpusR l) c = cntL l c := fun c hc => by
    have h1 := cnt_one8 hr hc
    have h2 := or_bits (l := l) c l.length (Nat.le_refl _)
    rw [List.take_length] at h2
    unfold bitN cpusR
    rw [if_pos hr, h2]
    by_cases h0 : 0 < cntL l c
    · rw [if_pos (by simp [h0])]; omega
    · rw [if_neg (by simp; omega)]; omega
  unfold tot8
  rw [hb 0 (by omega), hb 1 (by omega), hb 2 (by omega), hb 3 (by omega), hb 4 (by omega), hb 5 (by omega), hb 6 (by omega), hb 7 (by omega)]

/-- what comes of an op are pools, of the same pCPUs -/
theorem joinR_ok {l l' : List Nat} {p i : Int} (hr : rightP l = true) (h : joinR l p i = (l', 0)) : rightP l' = true ∧ cpusR l' = cpusR l := by
  unfold joinR at h
  rw [if_pos hr] at h
  obtain ⟨a, b, rfl, rfl, ha, hb, hab, rfl⟩ := join_ok h
  obtain ⟨h1, h2⟩ := join_right hr ha hb hab
  exact ⟨h1, cpus_same hr h1 (fun c _ => h2 c)⟩
theorem splitR_ok {l l' : List Nat} {f k : Int} {s : Nat} (hr : rightP l = true) (h : splitR l f s = (l', k, 0)) : rightP l' = true ∧ cpusR l' = cpusR l := by
  unfold splitR at h
  rw [if_pos hr] at h
  obtain ⟨j, x, rfl, hx, h8, h0, hsx, hne, h4, rfl, rfl⟩ := split_ok h
  have h1 := split_right hr hx h0 h8 hsx hne h4
  exact ⟨h1, cpus_same hr h1 (fun c _ => split_cnt hx hsx c)⟩
theorem moveR_ok {l l' : List Nat} {c t k : Int} (hr : rightP l = true) (h : moveR l c t = (l', k, 0)) : rightP l' = true ∧ cpusR l' = cpusR l := by
  unfold moveR at h
  rw [if_pos hr] at h
  obtain ⟨j, b, n, x, y, rfl, rfl, rfl, n8, ho, hjb, hx, hy, hbit, hle, hc1, rfl⟩ := move_ok h
  have h1 := move_right hr hjb hx hy n8 hbit hle hc1
  exact ⟨h1, cpus_same hr h1 (fun c _ => move_cnt hjb hx hy hbit (not_there hr hjb hx hy n8 hbit) c)⟩
def oneP (k : Nat) : Bool := rightP [2 ^ k - 1]
theorem one_right {k : Nat} (h1 : 1 ≤ k) (h8 : k ≤ 8) : rightP [2 ^ k - 1] = true := by
  have : k = 1 ∨ k = 2 ∨ k = 3 ∨ k = 4 ∨ k = 5 ∨ k = 6 ∨ k = 7 ∨ k = 8 := by omega
  rcases this with rfl | rfl | rfl | rfl | rfl | rfl | rfl | rfl <;> decide +kernel
theorem runR_ok {l l' : List Nat} {k a b cpu n : Int} {s : Nat} (hr : rightP l = true) (h : runR l k a b cpu s = (l', n, 0)) : rightP l' = true ∧ cpusR l' = cpusR l := by
  unfold runR at h
  split at h
  · exact splitR_ok hr h
  · split at h
    · obtain ⟨q, hq⟩ : ∃ q, joinR l a b = q := ⟨_, rfl⟩
      obtain ⟨q1, q2⟩ := q
      rw [hq] at h
      simp only [Prod.mk.injEq] at h
      obtain ⟨rfl, -, rfl⟩ := h
      exact joinR_ok hr hq
    · exact moveR_ok hr h

/-- an op: its kind, numbers, set -/
abbrev OpT : Type := Int × Int × Int × Int × Nat
def opv (o : OpT) : List Value := [.int .i64 o.1, .int .i64 o.2.1, .int .i64 o.2.2.1, .int .i64 o.2.2.2.1, .int .u32 (o.2.2.2.2 : Int)]
theorem length_opv (o : OpT) : (opv o).length = 5 := rfl
theorem op_at {w : World} {B n : Nat} {A : Option Addr} {l : List OpT} (h : Reads w B 5 A n (flat opv l)) {j : Nat} {k a b cpu : Int} {s : Nat} (hj : l[j]? = some (k, a, b, cpu, s)) :
    ∃ ad, A = some ad ∧ ad.block < B ∧ w.cell? (ad.add (j * 5)) = some (.int .i64 k) ∧ w.cell? ⟨(ad.add (j * 5)).block, (ad.add (j * 5)).off + 1, none⟩ = some (.int .i64 a) ∧ w.cell? ⟨(ad.add (j * 5)).block, (ad.add (j * 5)).off + 2, none⟩ = some (.int .i64 b) ∧
      w.cell? ⟨(ad.add (j * 5)).block, (ad.add (j * 5)).off + 3, none⟩ = some (.int .i64 cpu) ∧ w.cell? ⟨(ad.add (j * 5)).block, (ad.add (j * 5)).off + 4, none⟩ = some (.int .u32 (s : Int)) := by
  obtain ⟨ad, e, hb, hc⟩ := h.elem opv length_opv hj (by omega)
  have c1 := hc 1 _ rfl
  have c2 := hc 2 _ rfl
  have c3 := hc 3 _ rfl
  have c4 := hc 4 _ rfl
  rw [add_past ad (j * 5) 0] at c1
  rw [add_past ad (j * 5) 1] at c2
  rw [add_past ad (j * 5) 2] at c3
  rw [add_past ad (j * 5) 3] at c4
  exact ⟨ad, e, hb, hc 0 _ rfl, c1, c2, c3, c4⟩

end Go.Proofs.YtnckfgnhlnichaaDoor
