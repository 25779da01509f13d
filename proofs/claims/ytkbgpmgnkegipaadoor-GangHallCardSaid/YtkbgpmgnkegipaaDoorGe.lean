/-
  The landed cpuset's Of and Count; the landed gang: areChoices. No statement is proved here.
-/
import Derived.Test.YtkbgpmgnkegipaaDoorGd
import Derived.Laws.BitsAllLaws
import Derived.Lib.LaidTab
import Derived.Lib.BitFns
import Derived.Lib.Strings
import Derived.Lib.Slices
import Derived.Lib.Small
import Derived.Lib.Walk
namespace Go.Proofs.YtkbgpmgnkegipaaDoor
open Go.RowKit Go.Maps
theorem two_pos (n : Nat) : (0 : Int) < 2 ^ n := Int.pow_pos (by decide)
theorem two_le8 {n : Nat} (h : n ≤ 8) : (2 : Int) ^ n ≤ 256 := by
  have : n = 0 ∨ n = 1 ∨ n = 2 ∨ n = 3 ∨ n = 4 ∨ n = 5 ∨ n = 6 ∨ n = 7 ∨ n = 8 := by omega
  rcases this with rfl | rfl | rfl | rfl | rfl | rfl | rfl | rfl | rfl <;> decide
set_option maxRecDepth 100000 in
set_option maxHeartbeats 400000 in
theorem cpu_any (c : Int) (w : World) : Calls Tryd.prog 66 #[.int .i64 c] w fun e w' => e = .returned (.bool (cpuB c)) ∧ w = w' := by
  by_cases h0 : 0 ≤ c
  · by_cases h1 : c < 8
    · have H := Lib.hid (cpuB_yes h0 h1)
      go_enter Tryd.func66, Tryd.ntmps66
      go_wp2
      go_ret
      exact ⟨retB H.out.symm, rfl⟩
    · have H := Lib.hid (cpuB_no (c := c) (.inr (by omega)))
      go_enter Tryd.func66, Tryd.ntmps66
      go_wp2
      go_ret
      exact ⟨retB H.out.symm, rfl⟩
  · have H := Lib.hid (cpuB_no (c := c) (.inl (by omega)))
    go_enter Tryd.func66, Tryd.ntmps66
    go_wp2
    go_ret
    exact ⟨retB H.out.symm, rfl⟩
set_option maxRecDepth 100000 in
set_option maxHeartbeats 400000 in
theorem bit_any (c : Int) (w : World) (h0 : 0 ≤ c) (h1 : c ≤ 8) : Calls Tryd.prog 57 #[.int .i64 c] w fun e w' => e = .returned (.int .u32 (2 ^ c.toNat)) ∧ w = w' := by
  have g0 := two_pos c.toNat
  have g1 := two_le8 (n := c.toNat) (by omega)
  have g2 : c ≤ 32 := by omega
  go_enter Tryd.func57, Tryd.ntmps57
  go_wp2
  go_ret
  refine ⟨?_, rfl⟩
  simp
theorem and_all {s : Int} (h0 : 0 ≤ s) (h1 : s < 4294967296) : bits .and .u32 s 255 = s % 256 := by
  rw [u32_and s 255 h0 h1 (by omega) (by omega)]
  have : s.toNat &&& 255 = s.toNat % 256 := Nat.and_two_pow_sub_one_eq_mod s.toNat 8
  rw [show (255 : Int).toNat = 255 from rfl, this]
  omega
set_option maxRecDepth 100000 in
set_option maxHeartbeats 1000000 in
theorem ones_any (x : Nat) (w : World) (h1 : x < 256) : Calls Tryd.prog 23 #[.int .u32 (x : Int)] w (Draws (.int .i64 (Lib.onesCount x : Int)) w) := by
  have e1 : (x : Int) / 16777216 = 0 := by omega
  have e2 : (x : Int) / 65536 = 0 := by omega
  have e3 : (x : Int) / 256 = 0 := by omega
  have e4 : bits .and .u32 (x : Int) 255 = (x : Int) := by rw [and_all (by omega) (by omega)]; omega
  have e5 : bits .and .u32 0 255 = 0 := by decide
  have x1 : (x : Int) ≤ 255 := by omega
  have x0 : (0 : Int) ≤ (x : Int) := by omega
  have p0 : Lib.pop8 0 = 0 := by decide +kernel
  have px : Lib.pop8 (x : Int) = (Lib.onesCount x : Int) := Lib.pop8_eq ⟨x, h1⟩
  have pl : Lib.onesCount x ≤ 8 := Lib.onesCount_le8 ⟨x, h1⟩
  generalize Lib.onesCount x = N at *
  have w0 : IntKind.u8.wrap 0 = 0 := by decide
  have w1 : IntKind.u8.wrap (N : Int) = (N : Int) := by simp [IntKind.wrap, IntKind.bits, IntKind.signed]; omega
  have w2 : IntKind.i64.wrap (N : Int) = (N : Int) := by rw [IntKind.wrap_i64]; omega
  clear h1 pl
  go_enter Tryd.func23, Tryd.ntmps23
  go_wp2_with fail
  go_quiet (fail)
  go_wp2
  go_ret
  exact ⟨rfl, _, rfl⟩
set_option maxRecDepth 100000 in
set_option maxHeartbeats 1000000 in
theorem count_any (x : Nat) (w : World) (h1 : x < 256) : Calls Tryd.prog 11 #[.int .u32 (x : Int)] w (Draws (.int .i64 (Lib.onesCount x : Int)) w) := by
  have ha := and_all (s := (x : Int)) (by omega) (by omega)
  rw [show (x : Int) % 256 = (x : Int) by omega] at ha
  have HO := Lib.hid (fun u => ones_any x u h1)
  clear h1
  go_enter Tryd.func11, Tryd.ntmps11
  go_wp2_with fail
  refine (HO.out _).mono ?_
  rintro e w' ⟨rfl, q, rfl⟩
  go_wp2
  go_ret
  exact ⟨rfl, _, rfl⟩
/-- numbers put into a set, one after another -/
def ofT : List Int → Nat → Nat
  | [], s => s
  | n :: l, s => ofT l (s ||| 2 ^ n.toNat)
theorem ofT_next {l : List Int} {k : Nat} {x : Int} (h : l[k]? = some x) (s : Nat) : ofT (l.drop k) s = ofT (l.drop (k + 1)) (s ||| 2 ^ x.toNat) := by
  obtain ⟨hk, hx⟩ := List.getElem?_eq_some_iff.1 h
  rw [List.drop_eq_getElem_cons hk, hx, ofT]
theorem or_two {s : Nat} {x : Int} (hs : s < 256) (h0 : 0 ≤ x) (h1 : x < 8) : bits .or .u32 (s : Int) ((2 : Int) ^ x.toNat) = ((s ||| 2 ^ x.toNat : Nat) : Int) ∧ s ||| 2 ^ x.toNat < 256 := by
  have h2 : (2 : Nat) ^ x.toNat < 2 ^ 8 := Nat.pow_lt_pow_of_lt (by omega) (by omega)
  have h3 : s < 2 ^ 8 := hs
  exact ⟨by rw [show ((2 : Int) ^ x.toNat) = ((2 ^ x.toNat : Nat) : Int) by push_cast; rfl, u32_or_nat _ _ (by omega) (by omega)], Nat.or_lt_two_pow h3 h2⟩


/-- one bit more is one more, if it is new -/
def onesOk : Bool := (List.range 256).all fun s => (List.range 8).all fun x => Lib.onesCount (s ||| 2 ^ x) == Lib.onesCount s + (if s.testBit x = true then 0 else 1)
theorem ones_ok : onesOk = true := by kernel_rfl
theorem ones_or {s x : Nat} (hs : s < 256) (hx : x < 8) : Lib.onesCount (s ||| 2 ^ x) = Lib.onesCount s + (if s.testBit x = true then 0 else 1) := by
  have h := ones_ok
  unfold onesOk at h
  rw [List.all_eq_true] at h
  have h2 := h s (List.mem_range.2 hs)
  rw [List.all_eq_true] at h2
  exact beq_iff_eq.1 (h2 x (List.mem_range.2 hx))
def goodI (row : List Int) : Bool := row.all cpuB
theorem ofT_facts : ∀ (row : List Int) (s : Nat), s < 256 → goodI row = true → ofT row s < 256 ∧ Lib.onesCount (ofT row s) ≤ Lib.onesCount s + row.length ∧ (Lib.onesCount (ofT row s) = Lib.onesCount s + row.length ↔ row.Nodup ∧ ∀ x ∈ row, s.testBit x.toNat = false)
  | [], s, hs, _ => by
    have e : ofT [] s = s := rfl
    rw [e, List.length_nil, Nat.add_zero]
    generalize Lib.onesCount s = N
    exact ⟨hs, Nat.le_refl _, fun _ => ⟨List.nodup_nil, fun x hx => (by cases hx)⟩, fun _ => rfl⟩
  | x :: row, s, hs, hg => by
    unfold goodI at hg
    rw [List.all_cons, Bool.and_eq_true] at hg
    obtain ⟨x0, x1⟩ := cpuB_true hg.1
    have hx8 : x.toNat < 8 := by omega
    have hor := (or_two hs x0 x1).2
    obtain ⟨i1, i2, i3⟩ := ofT_facts row (s ||| 2 ^ x.toNat) hor hg.2
    have h1 := ones_or hs hx8
    have hT : ofT (x :: row) s = ofT row (s ||| 2 ^ x.toNat) := rfl
    rw [hT, List.length_cons]
    generalize Lib.onesCount s = N0 at *
    generalize Lib.onesCount (s ||| 2 ^ x.toNat) = N1 at *
    generalize Lib.onesCount (ofT row (s ||| 2 ^ x.toNat)) = N2 at *
    have hin : ∀ y, y ∈ row → 0 ≤ y := fun y hy => by
      have := hg.2
      unfold goodI at this
      rw [List.all_eq_true] at this
      exact (cpuB_true (this y hy)).1
    refine ⟨i1, by split at h1 <;> omega, ?_⟩
    cases hb : s.testBit x.toNat with
    | true =>
      rw [hb, if_pos rfl] at h1
      constructor
      · intro h; omega
      · rintro ⟨_, h⟩
        have := h x List.mem_cons_self
        rw [hb] at this; cases this
    | false =>
      rw [hb, if_neg (by simp)] at h1
      rw [show N0 + (row.length + 1) = N1 + row.length by omega, i3]
      constructor
      · rintro ⟨h2, h3⟩
        refine ⟨List.nodup_cons.2 ⟨fun hm => ?_, h2⟩, fun y hy => ?_⟩
        · have := h3 x hm
          rw [Nat.testBit_or, Nat.testBit_two_pow_self, Bool.or_true] at this; cases this
        · rcases List.mem_cons.1 hy with rfl | hy
          · exact hb
          · have := h3 y hy
            rw [Nat.testBit_or, Bool.or_eq_false_iff] at this
            exact this.1
      · rintro ⟨h2, h3⟩
        obtain ⟨h4, h5⟩ := List.nodup_cons.1 h2
        refine ⟨h5, fun y hy => ?_⟩
        rw [Nat.testBit_or, h3 y (List.mem_cons_of_mem _ hy), Bool.false_or, Nat.testBit_two_pow]
        have := hin y hy
        have hne : x ≠ y := fun e => h4 (e ▸ hy)
        simp; omega
/-- which rows may be choices -/
def rowOk (row : List Int) : Bool := goodI row && decide row.Nodup
def choicesB (cs : List (List Int)) : Bool := decide (cs.length ≤ 8) && cs.all rowOk
theorem ones_zero : Lib.onesCount 0 = 0 := by kernel_rfl
theorem ones_lt {row : List Int} (hg : goodI row = true) : decide (Lib.onesCount (ofT row 0) < row.length) = !decide row.Nodup := by
  obtain ⟨_, h1, h2⟩ := ofT_facts row 0 (by omega) hg
  rw [ones_zero, Nat.zero_add] at h1 h2
  by_cases hn : row.Nodup
  · have := h2.2 ⟨hn, fun x _ => Nat.zero_testBit _⟩
    rw [decide_eq_true hn]
    exact decide_eq_false (by omega)
  · have : ¬ Lib.onesCount (ofT row 0) = row.length := fun e => hn (h2.1 e).1
    rw [decide_eq_false hn]
    exact decide_eq_true (by omega)
theorem good_take {row : List Int} {k : Nat} {x : Int} (h : row[k]? = some x) : goodI (row.take (k + 1)) = (goodI (row.take k) && cpuB x) := by
  unfold goodI
  rw [List.take_add_one, h, List.all_append]
  simp
theorem good_no {row : List Int} {k : Nat} {x : Int} (h : row[k]? = some x) (hx : cpuB x = false) : goodI row = false := by
  unfold goodI
  rw [List.all_eq_false]
  exact ⟨x, List.mem_of_getElem? h, by simp [hx]⟩

set_option maxRecDepth 100000 in
set_option maxHeartbeats 1000000 in
theorem of_any (A : Option Addr) (n c : Nat) (l : List Int) (w : World) (hI : IR w A n l) :
    Calls Tryd.prog 53 #[.slice A n c] w fun e w' => e = .returned (.tuple #[.int .u32 (if goodI l = true then (ofT l 0 : Int) else 0), .int .i64 (if goodI l = true then 0 else 2)]) ∧ w = w' := by
  have HN := Lib.hid hI.len
  have hR := hI.row
  have n9 := hI.small
  obtain ⟨V, hV⟩ : ∃ V : Int, (if goodI l = true then (ofT l 0 : Int) else 0) = V := ⟨_, rfl⟩
  obtain ⟨E, hE⟩ : ∃ E : Int, (if goodI l = true then (0 : Int) else 2) = E := ⟨_, rfl⟩
  rw [hV, hE]
  have HV := Lib.hid hV
  have HE := Lib.hid hE
  clear hV hE hI
  go_enter Tryd.func53, Tryd.ntmps53
  go_wp2_with fail
  go_loop [4, 9] (fun v i => ∃ (k : Nat) (s : Nat), k ≤ n ∧ i = .int .i64 k ∧ v = .int .u32 (s : Int) ∧ s < 256 ∧ Hid (ofT l 0 = ofT (l.drop k) s ∧ goodI (l.take k) = true)) (fun _ i => n - (intOf i).toNat)
  case atStart => exact ⟨0, 0, Nat.zero_le _, rfl, rfl, by omega, Lib.hid ⟨rfl, rfl⟩⟩
  case round =>
    obtain ⟨k, s, hk, rfl, rfl, s1, hN⟩ := hrel
    by_cases hlt : k < n
    · obtain ⟨ad, v, rfl, _, hx, hc⟩ := hR.at_ hlt
      obtain ⟨x, hx2, rfl⟩ := vs_at hx
      clear hx
      have j0 : (0 : Int) ≤ (k : Int) := by omega
      have j1 : (k : Int) < (n : Int) := by omega
      cases hp : cpuB x with
      | true =>
        have HP2 := Lib.hid (fun u => hp ▸ cpu_any x u)
        have hb := cpuB_true hp
        have HB := Lib.hid (fun u => bit_any x u (by omega) (by omega))
        obtain ⟨t, ht, t1, HT⟩ : ∃ t : Nat, bits .or .u32 (s : Int) (2 ^ x.toNat) = (t : Int) ∧ t < 256 ∧ Hid (ofT l 0 = ofT (l.drop (k + 1)) t ∧ goodI (l.take (k + 1)) = true) := ⟨s ||| 2 ^ x.toNat, (or_two s1 hb.1 hb.2).1, (or_two s1 hb.1 hb.2).2, Lib.hid ⟨hN.out.1.trans (ofT_next hx2 s), by rw [good_take hx2, hN.out.2, hp]; rfl⟩⟩
        generalize (2 : Int) ^ x.toNat = X at *
        clear hN hx2 hp hb
        go_wp2_with fail
        refine (HP2.out _).mono ?_
        rintro e w' ⟨rfl, rfl⟩
        go_wp2_with fail
        refine (HB.out _).mono ?_
        rintro e w' ⟨rfl, rfl⟩
        go_wp2
        go_round
        case rel => exact ⟨k + 1, t, by omega, by go_num, by simp, t1, HT⟩
        case measure => simp [intOf]; omega
      | false =>
        have HP2 := Lib.hid (fun u => hp ▸ cpu_any x u)
        have hg := good_no hx2 hp
        have HV2 : Hid (V = 0 ∧ E = 2) := Lib.hid (by rw [← HV.out, ← HE.out, hg]; exact ⟨rfl, rfl⟩)
        clear hp hx2 hg hN
        go_wp2_with fail
        refine (HP2.out _).mono ?_
        rintro e w' ⟨rfl, rfl⟩
        go_wp2
        go_ret2
        rw [HV2.out.1, HV2.out.2]
        exact ⟨rfl, rfl⟩
    · obtain rfl : k = n := by omega
      have hg : goodI l = true := by have := hN.out.2; rwa [List.take_of_length_le (by rw [HN.out]; exact Nat.le_refl _)] at this
      have HV2 : Hid (V = (s : Int) ∧ E = 0) := Lib.hid (by
        rw [← HV.out, ← HE.out, if_pos hg, if_pos hg, hN.out.1, ← HN.out, List.drop_length]; exact ⟨rfl, rfl⟩)
      clear hN hg
      go_wp2
      go_ret2
      rw [HV2.out.1, HV2.out.2]
      exact ⟨rfl, rfl⟩

set_option maxRecDepth 100000 in
set_option maxHeartbeats 4000000 in
theorem badrow_any (A : Option Addr) (n c : Nat) (l : List Int) (w : World) (hI : IR w A n l) :
    Calls Tryd.prog 52 #[.slice A n c] w (Said (.bool (!rowOk l)) w) := by
  have HO := Lib.hid (fun (u : World) (h : IR u A n l) => of_any A n c l u h)
  have HI := Lib.hid hI
  have hl := hI.len
  cases hg : goodI l with
  | false =>
    have HV : Hid (rowOk l = false) := Lib.hid (by unfold rowOk; rw [hg]; rfl)
    rw [hg, if_neg (by simp), if_neg (by simp)] at HO
    clear hI hg
    go_enter Tryd.func52, Tryd.ntmps52
    go_wp2_with fail
    refine (HO.out _ HI.out).mono ?_
    rintro e w1 ⟨rfl, rfl⟩
    go_wp2_with fail
    go_ret
    exact ⟨retB (by rw [HV.out]; rfl), Below.refl _ _⟩
  | true =>
    obtain ⟨f1, _, _⟩ := ofT_facts l 0 (by omega) hg
    have hlt := ones_lt hg
    rw [hl] at hlt
    have HC := Lib.hid (fun (u : World) => count_any (ofT l 0) u f1)
    rw [hg, if_pos rfl, if_pos rfl] at HO
    generalize ofT l 0 = s at *
    generalize Lib.onesCount s = N at *
    have HV : Hid ((!rowOk l) = decide (N < n)) := Lib.hid (by unfold rowOk; rw [hg, hlt]; simp)
    clear hI hg f1 hlt
    go_enter Tryd.func52, Tryd.ntmps52
    go_wp2_with fail
    refine (HO.out _ HI.out).mono ?_
    rintro e w1 ⟨rfl, rfl⟩
    go_wp2_with fail
    refine (HC.out _).mono ?_
    rintro e w2 ⟨rfl, q, rfl⟩
    go_wp2_with fail
    go_ret
    exact ⟨retB HV.out.symm, below_drewN (Below.refl _ _) _⟩

/-- the place of the first that holds, or -1 -/
def firstI {α : Type} (p : α → Bool) (l : List α) : Int := match l.findIdx? p with
  | none => -1
  | some k => (k : Int)
theorem firstI_yes {α : Type} {p : α → Bool} {l : List α} {k : Nat} {x : α} (hx : l[k]? = some x) (hp : p x = true) (h : ∀ y ∈ l.take k, p y = false) : firstI p l = (k : Int) := by
  obtain ⟨hk, e⟩ := List.getElem?_eq_some_iff.1 hx
  have : l.findIdx? p = some k := by
    rw [List.findIdx?_eq_some_iff_getElem]
    refine ⟨hk, by rw [e]; exact hp, fun j hj => ?_⟩
    have := h l[j] (by
      rw [List.mem_iff_getElem?]
      exact ⟨j, by rw [List.getElem?_take_of_lt hj, List.getElem?_eq_getElem (by omega)]⟩)
    rw [this]; simp
  unfold firstI
  rw [this]
theorem firstI_no {α : Type} {p : α → Bool} {l : List α} (h : ∀ y ∈ l, p y = false) : firstI p l = -1 := by
  have : l.findIdx? p = none := List.findIdx?_eq_none_iff.2 (fun y hy => by rw [h y hy])
  unfold firstI
  rw [this]
theorem firstI_any {α : Type} {p : α → Bool} {l : List α} : decide (0 ≤ firstI p l) = l.any p := by
  unfold firstI
  cases h : l.findIdx? p with
  | none =>
    rw [List.findIdx?_eq_none_iff] at h
    rw [show l.any p = false by rw [List.any_eq_false]; intro x hx; rw [h x hx]; simp]
    rfl
  | some k =>
    rw [List.findIdx?_eq_some_iff_getElem] at h
    obtain ⟨hk, hp, _⟩ := h
    rw [show l.any p = true by rw [List.any_eq_true]; exact ⟨_, List.getElem_mem hk, hp⟩]
    simp
theorem take_all {α : Type} {p : α → Bool} {l : List α} {k : Nat} {x : α} (h : ∀ y ∈ l.take k, p y = false) (hx : l[k]? = some x) (hp : p x = false) : ∀ y ∈ l.take (k + 1), p y = false := by
  intro y hy
  rw [List.take_add_one, hx] at hy
  rcases List.mem_append.1 hy with hy | hy
  · exact h y hy
  · rw [show y = x by simpa using hy]; exact hp

set_option maxRecDepth 100000 in
set_option maxHeartbeats 4000000 in
theorem badidx_any (A : Option Addr) (n c : Nat) (gs : List Gg) (w : World) (hG : GW w A n gs) :
    Calls Tryd.prog 65 #[.slice A n c, .func (.func 52) #[] #[]] w (Said (.int .i64 (firstI (fun r => !rowOk r) (gsI gs))) w) := by
  have HG := Lib.hid hG
  have n9 : n ≤ 100 := hG.small
  have HL := Lib.hid hG.len
  clear hG
  go_enter Tryd.func65, Tryd.ntmps65
  go_wp2_with fail
  go_loopw [8] (fun iv wr => ∃ k : Nat, k ≤ n ∧ iv = .int .i64 (k : Int) ∧ Hid (∀ y ∈ (gsI gs).take k, (!rowOk y) = false) ∧ Below w.heap.size w wr) (fun iv _ => n - (intOf iv).toNat)
  case atStart => exact ⟨0, by omega, rfl, Lib.hid (by simp), Below.refl _ _⟩
  case round =>
    obtain ⟨k, hk, rfl, HA, hB⟩ := hrel
    by_cases hlt : k < n
    · obtain ⟨⟨A2, m, c2, is⟩, hx⟩ := elem_at (l := gs) (k := k) (by rw [HL.out]; exact hlt)
      obtain ⟨ad, rfl, _, d0⟩ := (HG.out.below hB).at_ hx
      have HX := Lib.hid (gsI_at hx)
      have HB := Lib.hid hB
      have HH := Lib.hid (badrow_any A2 m c2 is wr ((HG.out.below hB).each _ (List.mem_of_getElem? hx)).1)
      have i1 : (0 : Int) ≤ (k : Int) := by omega
      have i2 : (k : Int) < (n : Int) := by omega
      clear hx
      cases he : (!rowOk is) with
      | true =>
        rw [he] at HH
        have HV := Lib.hid (firstI_yes (p := fun r => !rowOk r) HX.out he HA.out)
        clear he
        go_wp2_with fail
        refine (HH.out).mono ?_
        rintro e w2 ⟨rfl, h9⟩
        clear d0
        go_wp2
        go_ret
        rw [HV.out]
        exact ⟨rfl, HB.out.trans (h9.mono HB.out.size)⟩
      | false =>
        rw [he] at HH
        have HA2 := Lib.hid (take_all (p := fun r => !rowOk r) HA.out HX.out he)
        clear he
        go_wp2_with fail
        refine (HH.out).mono ?_
        rintro e w2 ⟨rfl, h9⟩
        clear d0
        go_wp2
        go_roundw
        case rel => exact ⟨k + 1, by omega, by go_num, HA2, HB.out.trans (h9.mono HB.out.size)⟩
        case measure => simp [intOf]; omega
    · obtain rfl : k = n := by omega
      have HV := Lib.hid (firstI_no (p := fun r => !rowOk r) (l := gsI gs) (by have := HA.out; rwa [List.take_of_length_le (by rw [gsI_len, HL.out]; exact Nat.le_refl _)] at this))
      go_wp2
      go_ret
      rw [HV.out]
      exact ⟨rfl, hB⟩

set_option maxRecDepth 100000 in
set_option maxHeartbeats 2000000 in
theorem badany_any (A : Option Addr) (n c : Nat) (gs : List Gg) (w : World) (hG : GW w A n gs) :
    Calls Tryd.prog 51 #[.slice A n c, .func (.func 52) #[] #[]] w (Said (.bool ((gsI gs).any fun r => !rowOk r)) w) := by
  have HI := Lib.hid (badidx_any A n c gs w hG)
  have HV := Lib.hid (firstI_any (p := fun r => !rowOk r) (l := gsI gs))
  generalize firstI (fun r => !rowOk r) (gsI gs) = r at *
  clear hG
  go_enter Tryd.func51, Tryd.ntmps51
  go_wp2_with fail
  refine HI.out.mono ?_
  rintro e w2 ⟨rfl, h9⟩
  go_wp2_with fail
  go_ret
  exact ⟨retB HV.out, h9⟩
set_option maxRecDepth 100000 in
set_option maxHeartbeats 2000000 in
theorem arechoices_any (A : Option Addr) (n c : Nat) (gs : List Gg) (w : World) (hG : GW w A n gs) :
    Calls Tryd.prog 30 #[.slice A n c] w (Said (.bool (choicesB (gsI gs))) w) := by
  have HI := Lib.hid (badany_any A n c gs w hG)
  have hl : (gsI gs).length = n := by rw [gsI_len, hG.len]
  clear hG
  by_cases h8 : 8 < n
  · have q : decide ((8 : Int) < (n : Int)) = true := decide_eq_true (by omega)
    have HV : Hid (choicesB (gsI gs) = false) := Lib.hid (by unfold choicesB; rw [hl, decide_eq_false (by omega)]; rfl)
    clear h8 hl
    go_enter Tryd.func30, Tryd.ntmps30
    go_wp2_with fail
    go_ret
    exact ⟨retB HV.out.symm, Below.refl _ _⟩
  · have q : decide ((8 : Int) < (n : Int)) = false := decide_eq_false (by omega)
    have HV : Hid (choicesB (gsI gs) = !((gsI gs).any fun r => !rowOk r)) := Lib.hid (by
      unfold choicesB
      rw [hl, decide_eq_true (by omega), Bool.true_and]
      induction gsI gs with
      | nil => rfl
      | cons a l ih => rw [List.all_cons, List.any_cons, Bool.not_or, Bool.not_not, ih])
    generalize ((gsI gs).any fun r => !rowOk r) = b at *
    clear h8 hl
    go_enter Tryd.func30, Tryd.ntmps30
    go_wp2_with fail
    refine HI.out.mono ?_
    rintro e w2 ⟨rfl, h9⟩
    go_wp2_with fail
    go_ret
    exact ⟨retB HV.out.symm, h9⟩

end Go.Proofs.YtkbgpmgnkegipaaDoor
