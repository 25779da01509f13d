/-
  The contract of the landed wide's look at a text: is it a number? No statement is proved here.
-/
import Derived.Test.YteglkhljenjplaaTd
import Derived.Laws.RangeString
import Derived.Lib.Strings
namespace Go.Proofs.Yteglkhljenjplaa
open Go.RowKit

def toIter (W : World) (g : Nat) (s : ByteArray) (p : Nat) : World := { W with heap := W.heap.setIfInBounds g (.stringIter s p) }
def iterPos (W : World) (g : Nat) : Nat := match W.heap[g]? with | some (.stringIter _ p) => p | _ => 0
theorem iterPos_at {W : World} {g p : Nat} {s : ByteArray} (h : W.heap[g]? = some (.stringIter s p)) : iterPos W g = p := by unfold iterPos; rw [h]
section
variable {W : World} {g : Nat} {s : ByteArray} {pos : Nat}
theorem run_next_at (ty : TypeId) (hg : W.heap[g]? = some (.stringIter s pos)) (h : pos < s.size) (ha : (s[pos]'h).toNat < 128) :
    (Instr.next (.pointer (some ⟨g, 0, none⟩)) true ty).run Try.prog W = .ok (.tuple #[.bool true, .int .i64 pos, .int .i32 (s[pos]'h).toNat]) (toIter W g s (pos + 1)) := by
  simp only [Instr.next, getObj, setObj, Sem.run_bind, Sem.run, hg, Result.andThen, h, if_true, decode_ascii s pos h ha]
  simp [goInt, toIter]
theorem run_next_out (ty : TypeId) (hg : W.heap[g]? = some (.stringIter s pos)) (h : ¬ pos < s.size) :
    (Instr.next (.pointer (some ⟨g, 0, none⟩)) true ty).run Try.prog W = .ok (.tuple #[.bool false]) W := by
  simp [Instr.next, getObj, Sem.run, hg, h]
theorem toIter_at (hg : W.heap[g]? = some (.stringIter s pos)) (p : Nat) : (toIter W g s p).heap[g]? = some (.stringIter s p) := by
  have := lt_of_block hg
  simp [toIter, this]
theorem toIter_blk {g' : Nat} {t : TypeId} {cs : Array Value} (h : Blk W g' t cs) (hne : g' ≠ g) (p : Nat) : Blk (toIter W g s p) g' t cs := by
  unfold Blk at h ⊢
  simp [toIter, Array.getElem?_setIfInBounds, h]
  intro e; exact absurd e.symm hne
theorem toIter_below {B : Nat} {a : World} (h : Below B a W) (hg : B ≤ g) (p : Nat) : Below B a (toIter W g s p) :=
  h.trans ⟨rfl, rfl, rfl, by simp [toIter], fun k hk => by simp [toIter, Array.getElem?_setIfInBounds]; intro e; omega⟩
end

theorem txt_size (ds : List Nat) : (txt ds).size = ds.length := by simp [txt, ByteArray.size]
theorem txt_at {ds : List Nat} (hl : ∀ d ∈ ds, d < 10) {k : Nat} (h : k < (txt ds).size) (h2 : k < ds.length) : ((txt ds)[k]'h).toNat = 48 + ds[k] := by
  have hd := hl ds[k] (List.getElem_mem h2)
  have e : (txt ds)[k]'h = UInt8.ofNat (48 + ds[k]) := by
    show ((ds.map fun d => UInt8.ofNat (48 + d)).toArray)[k]'_ = _
    simp
  rw [e]
  simp
  omega

theorem txt_list (ds : List Nat) : (txt ds).toList = ds.map fun d => UInt8.ofNat (48 + d) := by
  rw [Lib.toList_data]
  simp [txt]
theorem txt_form {ds : List Nat} (hl : ∀ d ∈ ds, d < 10) (hform : ds = [0] ∨ ∃ d es, ds = d :: es ∧ d ≠ 0) :
    (txt ds).toList = [48] ∨ (¬ (txt ds).toList = [48] ∧ ¬ (txt ds).toList = [] ∧ ∃ h0 : 0 < (txt ds).size, 49 ≤ ((txt ds)[0]'h0).toNat) := by
  rw [txt_list]
  rcases hform with rfl | ⟨d, es, rfl, hd⟩
  · exact .inl rfl
  · have hd10 := hl d (by simp)
    refine .inr ⟨fun h => ?_, by simp, by rw [txt_size]; simp, ?_⟩
    · simp at h
      have h1 := congrArg UInt8.toNat h.1
      simp at h1
      omega
    · have := txt_at hl (k := 0) (by rw [txt_size]; simp) (by simp)
      rw [this]
      simp
      omega

set_option maxHeartbeats 2000000 in
theorem number_yes (ds : List Nat) (hl : ∀ d ∈ ds, d < 10) (hlen : ds.length ≤ 39) (hform : ds = [0] ∨ ∃ d es, ds = d :: es ∧ d ≠ 0) (w : World) :
    Calls Try.prog 36 #[.string (txt ds)] w (Ans (.bool true) w) := by
  have hsz := txt_size ds
  obtain ⟨s, hs⟩ : ∃ s, txt ds = s := ⟨_, rfl⟩
  have HAT := Lib.hid (fun k (h : k < (txt ds).size) h2 => txt_at hl (k := k) h h2)
  rw [hs] at hsz ⊢
  have HS := Lib.hid (And.intro hs (And.intro hsz (And.intro hlen (And.intro hl hform))))
  clear hs hsz hlen hl hform
  go_enter Try.func36, Try.ntmps36
  go_wp2_with fail
  have hI : (w.iter s 0).heap[w.heap.size]? = some (.stringIter s 0) := World.iter_heap w s 0
  have hB : Below w.heap.size w (w.iter s 0) := (Below.refl _ _).alloc (Nat.le_refl _) _
  generalize w.iter s 0 = V at hI hB ⊢
  go_loopw [4] (fun r wr => ∃ k : Nat, k ≤ ds.length ∧ wr.heap[w.heap.size]? = some (.stringIter s k) ∧ Below w.heap.size w wr) (fun _ wr => ds.length - iterPos wr w.heap.size)
  case atStart => exact ⟨0, by omega, hI, hB⟩
  case round =>
    clear hI hB
    obtain ⟨k, hk, hI, hB⟩ := hrel
    have hsz := HS.out.2.1
    by_cases hlt : k < ds.length
    · obtain ⟨c, hc, hc1, hc2⟩ : ∃ c : Nat, (s[k]'(by omega)).toNat = c ∧ 48 ≤ c ∧ c ≤ 57 := by
        obtain ⟨d, hd, hd2⟩ : ∃ d, ds[k] = d ∧ d < 10 := ⟨_, rfl, HS.out.2.2.2.1 _ (List.getElem_mem hlt)⟩
        have h1 := HS.out.1
        subst h1
        have := HAT.out k (by omega) hlt
        exact ⟨_, rfl, by omega, by omega⟩
      have hnx := run_next_at 0 hI (by omega) (by rw [hc]; omega)
      rw [hc] at hnx
      have hb1 : decide ((c : Int) < 48) = false := decide_eq_false (by omega)
      have hb2 : decide ((57 : Int) < (c : Int)) = false := decide_eq_false (by omega)
      have HE := Lib.hid (And.intro (toIter_at hI (k + 1)) (And.intro (toIter_below hB (Nat.le_refl _) (k + 1) (s := s)) (And.intro (iterPos_at hI) (iterPos_at (toIter_at hI (k + 1))))))
      have HK := Lib.hid hlt
      clear hI hB hsz hc hc1 hc2 hlt hk
      go_wp2
      go_roundw
      case rel => exact ⟨k + 1, by have := HK.out; omega, HE.out.1, HE.out.2.1⟩
      case measure => rw [HE.out.2.2.2, HE.out.2.2.1]; have := HK.out; omega
    · have hnx := run_next_out 0 hI (by omega)
      have hf := txt_form HS.out.2.2.2.1 HS.out.2.2.2.2
      rw [HS.out.1] at hf
      clear hI hsz hk hlt
      rcases hf with h48 | ⟨h1, h2, h0, h3⟩
      · go_wp2
        go_ret
        exact ⟨rfl, hB⟩
      · have b1 : (s.toList == [48]) = false := by simpa using h1
        have b2 : s.toList.isEmpty = false := by simpa using h2
        have b3 : (((s[0]'h0).toNat : Int) != 48) = true := by simp; omega
        clear h3
        go_wp2
        go_ret
        exact ⟨by first | rfl | simp, hB⟩

end Go.Proofs.Yteglkhljenjplaa
