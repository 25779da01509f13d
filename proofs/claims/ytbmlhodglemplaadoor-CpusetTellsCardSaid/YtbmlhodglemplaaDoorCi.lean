/-
  The contracts of strings.Cut at a byte and of the landed number and readRow. No statement is proved here.
-/
import Derived.Test.YtbmlhodglemplaaDoorCh
import Derived.Lib.IndexLaws
namespace Go.Proofs.YtbmlhodglemplaaDoor
open Go.RowKit

def ahead (b : UInt8) (l : List UInt8) : List UInt8 := l.takeWhile (· != b)
def onward (b : UInt8) (l : List UInt8) : List UInt8 := l.dropWhile (· != b)
theorem ahead_none {b : UInt8} {l : List UInt8} (h : ∀ k : Nat, l[k]? ≠ some b) : ahead b l = l ∧ onward b l = [] := by
  have hp : ∀ a ∈ l, (a != b) = true := fun a ha => by
    obtain ⟨k, hk⟩ := List.getElem?_of_mem ha
    simp only [bne_iff_ne, ne_eq]
    rintro rfl
    exact h k hk
  constructor
  · unfold ahead
    rw [← List.append_nil l, List.takeWhile_append_of_pos hp]
    rfl
  · unfold onward
    rw [← List.append_nil l, List.dropWhile_append_of_pos hp]
    rfl
theorem ahead_some {b : UInt8} {l : List UInt8} {o : Nat} (h : l[o]? = some b) (hb : ∀ k : Nat, k < o → l[k]? ≠ some b) : ahead b l = l.take o ∧ onward b l = l.drop o ∧ o < l.length := by
  have hlt : o < l.length := (List.getElem?_eq_some_iff.1 h).1
  have hp : ∀ a ∈ l.take o, (a != b) = true := fun a ha => by
    obtain ⟨k, hk⟩ := List.getElem?_of_mem ha
    have hk' := (List.getElem?_eq_some_iff.1 hk).1
    simp only [List.length_take] at hk'
    rw [List.getElem?_take_of_lt (by omega)] at hk
    simp only [bne_iff_ne, ne_eq]
    rintro rfl
    exact hb k (by omega) hk
  have hd : l.drop o = b :: l.drop (o + 1) := by
    rw [List.drop_eq_getElem_cons hlt]
    rw [List.getElem?_eq_getElem hlt] at h
    injection h with h
    rw [h]
  refine ⟨?_, ?_, hlt⟩
  · unfold ahead
    conv => lhs; rw [← List.take_append_drop o l]
    rw [List.takeWhile_append_of_pos hp, hd]
    simp
  · unfold onward
    conv => lhs; rw [← List.take_append_drop o l]
    rw [List.dropWhile_append_of_pos hp, hd]
    simp

/-- what stands behind the byte; is there one? -/
def rear (b : UInt8) (l : List UInt8) : List UInt8 := (onward b l).drop 1
def pointed (b : UInt8) (l : List UInt8) : Bool := !(onward b l).isEmpty
def Cut3 (b : UInt8) (l : List UInt8) (w : World) (e : Ending) (w' : World) : Prop :=
  e = .returned (.tuple #[.string ⟨(ahead b l).toArray⟩, .string ⟨(rear b l).toArray⟩, .bool (pointed b l)]) ∧ Below w.heap.size w w'

set_option maxRecDepth 100000 in
set_option maxHeartbeats 400000 in
theorem lcut_any (b : UInt8) (s : ByteArray) (hs : s.size ≤ 1000) (w : World) : Calls Tryd.prog 58 #[.string s, .string ⟨#[b]⟩] w (Cut3 b s.data.toList w) := by
  have hI := Tryd.stringslite_Index_one s b w
  by_cases hi : Lib.indexByte s.data.toList b = -1
  · rw [hi] at hI
    obtain ⟨h1, h2⟩ := ahead_none (Lib.indexByte_none hi)
    have HE : Hid ((⟨(ahead b s.data.toList).toArray⟩ : ByteArray) = s ∧ onward b s.data.toList = []) := Lib.hid ⟨str_of h1.symm, h2⟩
    have HI := Lib.hid hI
    clear hi hI h1 h2
    go_enter Tryd.func58, Tryd.ntmps58
    go_wp2_with fail
    refine HI.out.mono ?_
    rintro e w' ⟨rfl, rfl⟩
    go_wp2
    go_ret3
    refine ⟨?_, Below.refl _ _⟩
    unfold pointed rear
    rw [HE.out.1, HE.out.2]
    rfl
  · have hge := Lib.indexByte_ge s.data.toList b
    obtain ⟨o, ho⟩ : ∃ o : Nat, Lib.indexByte s.data.toList b = o := ⟨_, (Int.toNat_of_nonneg (by omega)).symm⟩
    rw [ho] at hI
    obtain ⟨h1, h2⟩ := Lib.indexByte_some ho
    obtain ⟨h3, h4, hlt⟩ := ahead_some h1 h2
    rw [← Lib.size_eq] at hlt
    have HE : Hid (s.extract 0 o = (⟨(ahead b s.data.toList).toArray⟩ : ByteArray) ∧ s.extract (o + 1) s.size = (⟨((onward b s.data.toList).drop 1).toArray⟩ : ByteArray) ∧ (onward b s.data.toList).isEmpty = false) :=
      Lib.hid ⟨(str_of (by rw [Lib.extract_data, h3]; simp)).symm, (str_of (by rw [Lib.extract_to_end, h4, List.drop_drop])).symm, by
        rw [h4, List.isEmpty_eq_false_iff]
        intro e
        have := congrArg List.length e
        rw [List.length_drop, ← Lib.size_eq] at this
        simp at this
        omega⟩
    have HI := Lib.hid hI
    clear hi hI h1 h2 h3 h4 ho hge
    have e1 : IntKind.i64.wrap ((o : Int) + 1) = (o : Int) + 1 := IntWalk.i64_in _ (by omega)
    have e2 : (0 : Int) ≤ (o : Int) + 1 := by omega
    have e3 : ((o : Int) + 1).toNat = o + 1 := by omega
    go_enter Tryd.func58, Tryd.ntmps58
    go_wp2_with fail
    refine HI.out.mono ?_
    rintro e w' ⟨rfl, rfl⟩
    go_wp2
    go_quiet (fail)
    go_wp2
    go_ret3
    refine ⟨?_, rfl, rfl, rfl, Nat.le_refl _, fun _ _ => rfl⟩
    unfold pointed rear
    rw [← HE.out.1, ← HE.out.2.1, HE.out.2.2]
    rfl

set_option maxRecDepth 100000 in
theorem cut_any (b : UInt8) (s : ByteArray) (hs : s.size ≤ 1000) (w : World) : Calls Tryd.prog 52 #[.string s, .string ⟨#[b]⟩] w (Cut3 b s.data.toList w) := by
  have HI := Lib.hid (lcut_any b s hs w)
  go_enter Tryd.func52, Tryd.ntmps52
  go_wp2_with fail
  refine HI.out.mono ?_
  rintro e w' ⟨rfl, hB⟩
  go_wp2
  go_ret3
  exact ⟨rfl, hB⟩


theorem ahead_le (b : UInt8) (l : List UInt8) : (ahead b l).length ≤ l.length := (List.takeWhile_sublist _).length_le
theorem rear_le (b : UInt8) (l : List UInt8) : (rear b l).length ≤ l.length := by
  unfold rear onward
  rw [List.length_drop]
  have := (List.dropWhile_sublist (· != b) (l := l)).length_le
  omega
theorem rear_lt {b : UInt8} {l : List UInt8} (h : pointed b l = true) : (rear b l).length < l.length := by
  unfold pointed at h
  unfold rear
  have := (List.dropWhile_sublist (· != b) (l := l)).length_le
  unfold onward at h ⊢
  rw [List.length_drop]
  cases hd : l.dropWhile (· != b) with
  | nil => rw [hd] at h; simp at h
  | cons x r => rw [hd] at this; simp at this ⊢; omega
theorem size_mk (l : List UInt8) : (⟨l.toArray⟩ : ByteArray).size = l.length := by simp [ByteArray.size]

/-- the errors that the library's Atoi names lie as they were made -/
def Gd (w : World) : Prop := Db w ∧ (∃ te pe, w.cell? ⟨3, 0, none⟩ = some (.iface te pe)) ∧ (∃ te pe, w.cell? ⟨4, 0, none⟩ = some (.iface te pe))
theorem lt_of_cell {w : World} {p : Addr} {v : Value} (h : w.cell? p = some v) : p.block < w.heap.size := by
  rcases Nat.lt_or_ge p.block w.heap.size with h' | h'
  · exact h'
  · unfold World.cell? at h
    rw [Array.getElem?_eq_none h'] at h
    cases h
theorem Gd.below {w w' : World} (h : Gd w) (hb : Below w.heap.size w w') : Gd w' := by
  obtain ⟨h1, ⟨te, pe, h2⟩, ⟨tf, pf, h3⟩⟩ := h
  have l2 := lt_of_cell h2
  have l3 := lt_of_cell h3
  exact ⟨h1.below hb h1.lt, ⟨te, pe, (hb.cell l2).trans h2⟩, ⟨tf, pf, (hb.cell l3).trans h3⟩⟩

def numV (l : List UInt8) : Option Nat := match Lib.atoiAll l with
  | .ok v => if cpuB v = true then some v.toNat else none
  | _ => none
theorem num_lt {l : List UInt8} {n : Nat} (h : numV l = some n) : n < 8 := by
  unfold numV at h
  split at h
  · split at h
    · rename_i hc
      have := cpuB_true hc
      injection h with h
      omega
    · cases h
  · cases h
def NumP (o : Option Nat) (w : World) (e : Ending) (w' : World) : Prop :=
  (∀ n, o = some n → e = .returned (.tuple #[.int .i64 (n : Int), .bool true])) ∧ (o = none → ∃ x, e = .returned (.tuple #[.int .i64 x, .bool false])) ∧ Below w.heap.size w w'

theorem num_ok {l : List UInt8} {v : Int} (h : Lib.atoiAll l = .ok v) (hc : cpuB v = true) : numV l = some v.toNat := by
  unfold numV; rw [h]; exact if_pos hc
theorem num_out {l : List UInt8} {v : Int} (h : Lib.atoiAll l = .ok v) (hc : ¬ cpuB v = true) : numV l = none := by
  unfold numV; rw [h]; exact if_neg hc
theorem num_bad {l : List UInt8} (h : ∀ v, Lib.atoiAll l ≠ .ok v) : numV l = none := by
  unfold numV
  split
  · rename_i v hv; exact absurd hv (h v)
  · rfl
theorem numP_some {n : Nat} {w w' : World} (hB : Below w.heap.size w w') : NumP (some n) w (.returned (.tuple #[.int .i64 (n : Int), .bool true])) w' :=
  ⟨fun m h => (by injection h with h; subst h; rfl), fun h => (by cases h), hB⟩
theorem numP_none {x : Int} {w w' : World} (hB : Below w.heap.size w w') : NumP none w (.returned (.tuple #[.int .i64 x, .bool false])) w' :=
  ⟨fun m h => (by cases h), fun _ => ⟨x, rfl⟩, hB⟩

/-- what the library's Atoi answers: a number, or an error that is not nil -/
def AtoP (l : List UInt8) (w : World) (e : Ending) (w' : World) : Prop :=
  ((∃ v, Lib.atoiAll l = .ok v ∧ e = .returned (.tuple #[.int .i64 v, .nilIface])) ∨ (numV l = none ∧ ∃ x te pe, e = .returned (.tuple #[.int .i64 x, .iface te (.pointer pe)]))) ∧ Below w.heap.size w w'
theorem atoi_any (T : ByteArray) (w : World) (hs : T.size ≤ 1000) (hG : Gd w) : Calls Tryd.prog 64 #[.string T] w (AtoP T.data.toList w) := by
  obtain ⟨_, ⟨te, pe, h2⟩, ⟨tf, pf, h3⟩⟩ := hG
  by_cases hok : ∃ v, Lib.atoiAll T.data.toList = .ok v
  · obtain ⟨v, hA⟩ := hok
    refine (Tryd.strconv_Atoi_ok T (by omega) v hA w).mono ?_
    rintro e w' ⟨rfl, rfl | ⟨t, rfl⟩⟩
    · exact ⟨.inl ⟨v, hA, rfl⟩, Below.refl _ _⟩
    · exact ⟨.inl ⟨v, hA, rfl⟩, Lib.bytesWorld_below _ _ _⟩
  · have hno : ∀ v, Lib.atoiAll T.data.toList ≠ .ok v := fun v h => hok ⟨v, h⟩
    by_cases hA : Lib.atoiAll T.data.toList = .range
    · refine (Tryd.strconv_Atoi_range T (by omega) hA _ w h3 (.inr ⟨tf, pf, rfl⟩)).mono ?_
      rintro e w' ⟨N, rfl, _, _, hb⟩
      exact ⟨.inr ⟨num_bad hno, _, _, _, rfl⟩, hb⟩
    · refine (Tryd.strconv_Atoi_syntax T (by omega) hno hA _ w h2 (.inr ⟨te, pe, rfl⟩)).mono ?_
      rintro e w' ⟨N, rfl, _, _, hb⟩
      exact ⟨.inr ⟨num_bad hno, _, _, _, rfl⟩, hb⟩

set_option maxRecDepth 100000 in
set_option maxHeartbeats 1000000 in
theorem num_any (T : ByteArray) (w : World) (hs : T.size ≤ 1000) (hG : Gd w) : Calls Tryd.prog 59 #[.string T] w (NumP (numV T.data.toList) w) := by
  have HA := Lib.hid (atoi_any T w hs hG)
  clear hs hG
  obtain ⟨O, hO⟩ : ∃ O, numV T.data.toList = O := ⟨_, rfl⟩
  rw [hO]
  have HO := Lib.hid hO
  clear hO
  go_enter Tryd.func59, Tryd.ntmps59
  go_wp2_with fail
  refine HA.out.mono ?_
  rintro e w1 ⟨⟨v, hv, rfl⟩ | ⟨hn, x, te, pe, rfl⟩, hB⟩
  · by_cases hc : cpuB v = true
    · have HV := Lib.hid (num_ok hv hc)
      have HI : Hid (((v.toNat : Nat) : Int) = v) := Lib.hid (by have := cpuB_true hc; omega)
      have HC := Lib.hid (fun u => cpu_any v u)
      rw [hc] at HC
      clear hv hc
      go_wp2_with fail
      refine (HC.out _).mono ?_
      rintro e w' ⟨rfl, rfl⟩
      go_wp2
      go_ret2
      rw [← HO.out, HV.out]
      have := numP_some (n := v.toNat) hB
      rw [HI.out] at this
      exact this
    · have HV := Lib.hid (num_out hv hc)
      have HC := Lib.hid (fun u => cpu_any v u)
      rw [show cpuB v = false by simpa using hc] at HC
      clear hv hc
      go_wp2_with fail
      refine (HC.out _).mono ?_
      rintro e w' ⟨rfl, rfl⟩
      go_wp2
      go_ret2
      rw [← HO.out, HV.out]
      exact numP_none hB
  · have HV := Lib.hid hn
    clear hn
    go_wp2
    go_ret2
    rw [← HO.out, HV.out]
    exact numP_none hB

def bitsR (a b : Nat) : Nat := (bits .andNot .u32 (2 ^ (b + 1) - 1) (2 ^ a - 1)).toNat
def bitsB (a b : Nat) : Bool := bits .andNot .u32 (2 ^ (b + 1) - 1) (2 ^ a - 1) == (bitsR a b : Int) && decide (bitsR a b < 256)
theorem bitsR_all : (List.range 8).all (fun a => (List.range 8).all (bitsB a)) = true := by kernel_rfl
theorem bitsR_facts {a b : Nat} (ha : a < 8) (hb : b < 8) : bits .andNot .u32 (2 ^ (b + 1) - 1) (2 ^ a - 1) = (bitsR a b : Int) ∧ bitsR a b < 256 := by
  have := of_all 8 (of_all 8 bitsR_all ha) hb
  unfold bitsB at this
  simpa using this

def mkRow (f t : List UInt8) : Option Nat := match numV f, numV t with
  | some a, some b => some (bitsR a b)
  | _, _ => none
def rowV (l : List UInt8) : Option Nat := mkRow (ahead 45 l) (if pointed 45 l = true then rear 45 l else ahead 45 l)
/-- a set and whether it reads -/
def RowP (o : Option Nat) (w : World) (e : Ending) (w' : World) : Prop :=
  (∀ n, o = some n → e = .returned (.tuple #[.int .u32 (n : Int), .bool true])) ∧ (o = none → e = .returned (.tuple #[.int .u32 0, .bool false])) ∧ Below w.heap.size w w'
theorem rowP_some {n : Nat} {w w' : World} (hB : Below w.heap.size w w') : RowP (some n) w (.returned (.tuple #[.int .u32 (n : Int), .bool true])) w' :=
  ⟨fun m h => (by injection h with h; subst h; rfl), fun h => (by cases h), hB⟩
theorem rowP_none {w w' : World} (hB : Below w.heap.size w w') : RowP none w (.returned (.tuple #[.int .u32 0, .bool false])) w' :=
  ⟨fun m h => (by cases h), fun _ => rfl, hB⟩
theorem row_lt {l : List UInt8} {n : Nat} (h : rowV l = some n) : n < 256 := by
  unfold rowV mkRow at h
  split at h
  · rename_i a b ha hb
    injection h with h
    rw [← h]
    exact (bitsR_facts (num_lt ha) (num_lt hb)).2
  · cases h

end Go.Proofs.YtbmlhodglemplaaDoor
