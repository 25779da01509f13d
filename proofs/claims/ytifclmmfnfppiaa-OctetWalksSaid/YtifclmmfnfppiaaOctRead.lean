/-
  The contracts of bytes.Clone as octet calls it, and of octet's Read, Left, Err, Whole and Lead. No statement is proved here.
-/
import Derived.Test.YtifclmmfnfppiaaOctPut
namespace Go.Proofs.Ytifclmmfnfppiaa
open Go.RowKit

/-- behind bytes.Clone: nil where nil came in -/
def ClonePost (w : World) (A : Option Addr) (m : Nat) (l : List UInt8) (e : Ending) (w' : World) : Prop :=
  ∃ A' c', e = .returned (.slice A' m c') ∧ Own w' w.heap.size A' m c' l ∧ Below w.heap.size w w' ∧ (A = none → A' = none)

set_option maxHeartbeats 400000 in
theorem clone_nil (n c : Nat) (w : World) : Calls Try.prog 34 #[.slice none n c] w (ClonePost w none 0 []) := by
  have hq := fun u : World => Lib.run_eql_slice_nil (P := Try.prog) u 22 5 none n c 0 0 Try.underlying22
  go_enter Try.func34, Try.ntmps34
  go_wp2
  go_ret
  exact ⟨_, _, rfl, World.ownsRow_nil _ _ _ _, Below.refl _ _, fun _ => rfl⟩

set_option maxHeartbeats 400000 in
theorem clone_some (ad : Addr) (n c : Nat) (l : List UInt8) (w : World) (hr : Reads w w.heap.size 1 (some ad) n (bs l)) (hn : n ≤ 100000) :
    Calls Try.prog 34 #[.slice (some ad) n c] w (ClonePost w (some ad) n l) := by
  obtain ⟨i0, hi0, hz0, hz1, hz2⟩ := info_parts byte_info
  have hq := fun u : World => Lib.run_eql_slice_nil (P := Try.prog) u 22 5 (some ad) n c 0 0 Try.underlying22
  go_enter Try.func34, Try.ntmps34
  go_wp2_with (
     at_builtin
     refine wpList_append_any _ rfl (.tmp 5) (.tmp 6) 22 rfl w.heap.size 5 i0 (.int .u8 0) 1 1 Try.underlying22 hi0 hz0 hz1 hz2 rfl (by decide) (.slice (some ⟨w.heap.size, 0, none⟩) 0 0) 0 [] rfl (World.ownsRow_made _ _ _ (by omega) (by simp [maxLen]) (by simp)) w.heap.size (some ad) n c (bs l) rfl (hr.alloc (by omega) _) (bs_ones l) (by simp only [maxLen]; omega) (by omega) (by simp) ?_
     intro v2 w2 hown2 hg2 _)
  go_ret
  have hown3 : w2.ownsRow w.heap.size 5 1 v2 n (bs l) := by simpa using hown2
  obtain ⟨A1, c1, rfl, hO⟩ := own_slice hown3
  exact ⟨A1, c1, rfl, hO, ((Below.refl _ _).alloc (Nat.le_refl _) _).grown hg2 (by simp) (fun g hg => by simp [Value.ownBlock] at hg; omega), fun h => by cases h⟩

/-- a reader at block p: what is ahead, and why it stopped (0: it has not) -/
def Rd (w : World) (p : Nat) (l : List UInt8) (st : Int) : Prop :=
  ∃ A c, Blk w p 65 #[.slice A l.length c, .int .i64 st] ∧ l.length ≤ c ∧ Reads w p 1 A l.length (bs l)
theorem Rd.lt {w : World} {p : Nat} {l : List UInt8} {st : Int} (h : Rd w p l st) : p < w.heap.size := by
  obtain ⟨A, c, hb, _, _⟩ := h
  exact hb.lt
theorem Rd.below {w w' : World} {p B : Nat} {l : List UInt8} {st : Int} (h : Rd w p l st) (hb : Below B w w') (hp : p < B) : Rd w' p l st := by
  obtain ⟨A, c, h1, h2, h3⟩ := h
  exact ⟨A, c, h1.below hb hp, h2, h3.keep fun q hq => hb.cell (by omega)⟩
theorem Rd.drewN {w : World} {p : Nat} {l : List UInt8} {st : Int} (h : Rd w p l st) (n : Nat) : Rd (w.drewN n) p l st := h
theorem Rd.alloc {w : World} {p : Nat} {l : List UInt8} {st : Int} (h : Rd w p l st) (o : Obj) : Rd (w.alloc o) p l st :=
  h.below ((Below.refl w.heap.size w).alloc (Nat.le_refl _) o) h.lt

def ReadPost (w : World) (l : List UInt8) (e : Ending) (w' : World) : Prop :=
  ∃ p, e = .returned (.pointer (some ⟨p, 0, none⟩)) ∧ w.heap.size ≤ p ∧ Rd w' p l 0 ∧ Below w.heap.size w w'

theorem clone_any (A : Option Addr) (n c : Nat) (l : List UInt8) (w : World) (hl : l.length = n) (hr : Reads w w.heap.size 1 A n (bs l)) (hn : n ≤ 100000) :
    Calls Try.prog 34 #[.slice A n c] w (ClonePost w A n l) := by
  rcases A with _ | ad
  · have h0 : n = 0 := by
      rcases Nat.eq_zero_or_pos n with h | h
      · exact h
      · obtain ⟨ad, h1, _⟩ := hr.2 h
        cases h1
    subst h0
    obtain rfl := List.eq_nil_of_length_eq_zero hl
    exact clone_nil 0 c w
  · exact clone_some ad n c l w hr hn

set_option maxHeartbeats 400000 in
theorem read_any (A : Option Addr) (n c : Nat) (l : List UInt8) (w : World) (hl : l.length = n) (hr : Reads w w.heap.size 1 A n (bs l)) (hn : n ≤ 100000) :
    Calls Try.prog 17 #[.slice A n c] w (ReadPost w l) := by
  have hcl := clone_any A n c l w hl hr hn
  have h := Lib.hid hcl
  clear hcl hl hr
  go_enter Try.func17, Try.ntmps17
  go_wp2_with (go_at_call 34; refine h.out.mono ?_; rintro e w1 ⟨A1, c1, rfl, hO, hB, _⟩)
  go_ret
  have hl1 := hO.length
  refine ⟨_, rfl, hB.size, ⟨A1, c1, ?_, ?_, ?_⟩, hB.alloc hB.size _⟩
  · rw [hl1]; exact Blk.new _ _ _
  · rw [hl1]; exact hO.cap
  · rw [hl1]; exact hO.reads.alloc (Nat.le_refl _) _

theorem Rd.cells {w : World} {p : Nat} {l : List UInt8} {st : Int} (h : Rd w p l st) :
    ∃ A c, w.cell? ⟨p, 0, none⟩ = some (.slice A l.length c) ∧ w.cell? ⟨p, 1, none⟩ = some (.int .i64 st) := by
  obtain ⟨A, c, h1, _, _⟩ := h
  exact ⟨A, c, h1.cell 0, h1.cell 1⟩

set_option maxHeartbeats 400000 in
theorem left_any (p : Nat) (l : List UInt8) (st : Int) (w : World) (h : Rd w p l st) :
    Calls Try.prog 25 #[.pointer (some ⟨p, 0, none⟩)] w fun e w' => e = .returned (.int .i64 l.length) ∧ w = w' := by
  obtain ⟨A, c, c0, c1⟩ := h.cells
  clear h
  go_enter Try.func25, Try.ntmps25
  go_wp2
  go_ret
  exact ⟨rfl, rfl⟩

theorem left_nil (w : World) : Calls Try.prog 25 #[.pointer none] w fun e w' => e = .returned (.int .i64 0) ∧ w = w' := by
  go_enter Try.func25, Try.ntmps25
  go_wp2
  go_ret
  exact ⟨rfl, rfl⟩

set_option maxHeartbeats 400000 in
theorem err_any (p : Nat) (l : List UInt8) (st : Int) (w : World) (h : Rd w p l st) :
    Calls Try.prog 26 #[.pointer (some ⟨p, 0, none⟩)] w fun e w' => e = .returned (.int .i64 st) ∧ w = w' := by
  obtain ⟨A, c, c0, c1⟩ := h.cells
  clear h
  go_enter Try.func26, Try.ntmps26
  go_wp2
  go_ret
  exact ⟨rfl, rfl⟩

theorem err_nil (w : World) : Calls Try.prog 26 #[.pointer none] w fun e w' => e = .returned (.int .i64 1) ∧ w = w' := by
  go_enter Try.func26, Try.ntmps26
  go_wp2
  go_ret
  exact ⟨rfl, rfl⟩

theorem whole_nil (w : World) : Calls Try.prog 27 #[.pointer none] w fun e w' => e = .returned (.bool false) ∧ w = w' := by
  go_enter Try.func27, Try.ntmps27
  go_wp2
  go_ret
  exact ⟨rfl, rfl⟩

def wholeB (st : Int) (n : Nat) : Bool := st == 0 && n == 0

set_option maxHeartbeats 400000 in
theorem whole_any (p : Nat) (l : List UInt8) (st : Int) (w : World) (h : Rd w p l st) :
    Calls Try.prog 27 #[.pointer (some ⟨p, 0, none⟩)] w fun e w' => e = .returned (.bool (wholeB st l.length)) ∧ w = w' := by
  obtain ⟨A, c, c0, c1⟩ := h.cells
  clear h
  generalize l.length = n at c0 ⊢
  by_cases h0 : st = 0
  · subst h0
    by_cases hn : n = 0
    · subst hn
      go_enter Try.func27, Try.ntmps27
      go_wp2
      go_ret
      exact ⟨rfl, rfl⟩
    · have hb : wholeB 0 n = false := by simp [wholeB, hn]
      have hd : ((n : Int) == 0) = false := by simpa using hn
      go_enter Try.func27, Try.ntmps27
      go_wp2
      go_ret
      exact ⟨by rw [hb]; rfl, rfl⟩
  · have hb : wholeB st n = false := by simp [wholeB, h0]
    have hd : (st == 0) = false := by simpa using h0
    go_enter Try.func27, Try.ntmps27
    go_wp2
    go_ret
    exact ⟨by rw [hb]; rfl, rfl⟩

/-- how many noughts stand ahead -/
def lead (l : List UInt8) : Nat := (l.takeWhile (· == 0)).length
theorem lead_le (l : List UInt8) : lead l ≤ l.length := (List.takeWhile_sublist _).length_le
theorem takeWhile_at {α : Type} (f : α → Bool) : ∀ (l : List α) (k : Nat) (x : α), l[k]? = some x → (∀ j y, j < k → l[j]? = some y → f y = true) → f x = false → (l.takeWhile f).length = k
  | [], k, x, h, _, _ => by simp at h
  | y :: l, 0, x, h, _, hx => by
    simp at h
    subst h
    simp [hx]
  | y :: l, k + 1, x, h, ha, hx => by
    have hy : f y = true := ha 0 y (by omega) rfl
    have := takeWhile_at f l k x (by simpa using h) (fun j z hj hz => ha (j + 1) z (by omega) (by simpa using hz)) hx
    simp [hy, this]
theorem lead_at {l : List UInt8} {k : Nat} {x : UInt8} (h : l[k]? = some x) (hx : x ≠ 0) (ha : ∀ j y, j < k → l[j]? = some y → y = 0) : lead l = k :=
  takeWhile_at _ l k x h (fun j y hj hy => by simpa using ha j y hj hy) (by simpa using hx)
theorem lead_all {l : List UInt8} (ha : ∀ y ∈ l, y = 0) : lead l = l.length := by
  have h : ∀ l : List UInt8, (∀ y ∈ l, y = 0) → l.takeWhile (· == 0) = l := fun l => by
    induction l with
    | nil => intro _; rfl
    | cons y l ih =>
      intro ha
      have hy : y = 0 := ha y (by simp)
      rw [List.takeWhile_cons, ih (fun z hz => ha z (by simp [hz]))]
      simp [hy]
  unfold lead
  rw [h l ha]

set_option maxHeartbeats 400000 in
theorem lead_any (A : Option Addr) (n c : Nat) (l : List UInt8) (w : World) (hl : l.length = n) (hr : Reads w w.heap.size 1 A n (bs l)) (hn : n ≤ 100000) :
    Calls Try.prog 16 #[.slice A n c] w fun e w' => e = .returned (.int .i64 (lead l)) ∧ w = w' := by
  have HL := Lib.hid hl
  clear hl
  go_enter Try.func16, Try.ntmps16
  go_wp2_with fail
  go_loop [7] (fun i => ∃ k : Nat, k ≤ n ∧ i = .int .i64 k ∧ Hid (∀ j y, j < k → l[j]? = some y → y = 0)) (fun i => n - (intOf i).toNat)
  case atStart => exact ⟨0, Nat.zero_le _, rfl, fun j y hj => by omega⟩
  case round =>
    obtain ⟨k, hk, rfl, hz⟩ := hrel
    by_cases hlt : k < n
    · obtain ⟨ad, v, rfl, _, hx, hcell⟩ := hr.at_ hlt
      obtain ⟨x, hlx, rfl⟩ := bs_at hx
      have HX := Lib.hid hlx
      clear hx hlx
      by_cases h0 : x = 0
      · subst h0
        go_wp2
        go_round
        case rel =>
          refine ⟨k + 1, by omega, by go_num, fun j y hj hy => ?_⟩
          rcases Nat.lt_or_ge j k with h | h
          · exact hz.out j y h hy
          · obtain rfl : j = k := by omega
            have := HX.out
            rw [hy] at this
            injection this
        case measure => simp [intOf]; omega
      · have hne : (((x.toNat : Int) != 0)) = true := by
          have : x.toNat ≠ 0 := fun e => h0 (UInt8.toNat_inj.1 (by simpa using e))
          simp; omega
        have hL : Hid (lead l = k) := lead_at HX.out h0 hz.out
        go_wp2
        go_ret
        exact ⟨by rw [hL.out]; rfl, rfl⟩
    · obtain rfl : k = n := by omega
      have hL : Hid (lead l = k) := by
        have := lead_all (l := l) fun y hy => by
          obtain ⟨j, hj, rfl⟩ := List.mem_iff_getElem.1 hy
          exact hz.out j _ (by have := HL.out; omega) (List.getElem?_eq_getElem hj)
        exact this.trans HL.out
      go_wp2
      go_ret
      exact ⟨by rw [hL.out]; rfl, rfl⟩

end Go.Proofs.Ytifclmmfnfppiaa
