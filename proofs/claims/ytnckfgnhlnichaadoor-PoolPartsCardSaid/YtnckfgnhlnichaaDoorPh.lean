/-
  A row of a call's own, at an address; the library's Clone; the landed pool: Split's closure. No statement is proved here.
-/
import Derived.Test.YtnckfgnhlnichaaDoorPd
import Derived.Lib.SliceRun
namespace Go.Proofs.YtnckfgnhlnichaaDoor
open Go.RowKit

/-- a row of the call's own, where it lies -/
structure Row (w : World) (b : Nat) (p : Addr) (n c : Nat) (l : List Nat) : Prop where
  own : w.ownsRow b 32 1 (.slice (some p) n c) n (us l)
  at_ : ∃ g, p = ⟨g, 0, none⟩ ∧ b ≤ g
theorem Row.of {w : World} {b : Nat} {p : Addr} {n c : Nat} {l : List Nat} (h : w.ownsRow b 32 1 (.slice (some p) n c) n (us l)) : Row w b p n c l := by
  refine ⟨h, ?_⟩
  rcases h.2 with ⟨h2, _⟩ | ⟨g, cap, cur, h2, hb, _⟩
  · cases h2
  · injection h2 with e1 e2 e3
    injection e1 with e1
    exact ⟨g, e1, hb⟩
theorem Row.len {w : World} {b : Nat} {p : Addr} {n c : Nat} {l : List Nat} (h : Row w b p n c l) : l.length = n := by
  have := h.own.1
  rw [length_us] at this
  omega
theorem Row.drew {w : World} {b : Nat} {p : Addr} {n c : Nat} {l : List Nat} (h : Row w b p n c l) : Row w.drew b p n c l := ⟨h.own.drew, h.at_⟩
theorem Row.cell {w : World} {b : Nat} {p : Addr} {n c : Nat} {l : List Nat} (h : Row w b p n c l) {j x : Nat} (hj : l[j]? = some x) : w.cell? (p.add j) = some (.int .u32 (x : Int)) := by
  have hl := h.len
  obtain ⟨g, rfl, _⟩ := h.at_
  have hjn := (List.getElem?_eq_some_iff.1 hj).1
  rw [add_zero_block, h.own.cellAt j (by omega)]
  unfold us
  rw [List.getElem?_map, hj]
  rfl
theorem Row.frozen {w : World} {b : Nat} {p : Addr} {n c : Nat} {l : List Nat} (h : Row w b p n c l) (j : Nat) : w.frozen? (p.add j) = false := by
  obtain ⟨g, rfl, _⟩ := h.at_
  rw [add_zero_block]
  exact h.own.frozenAt j
theorem Row.block {w : World} {b : Nat} {p : Addr} {n c : Nat} {l : List Nat} (h : Row w b p n c l) (j : Nat) : b ≤ (p.add j).block := by
  obtain ⟨g, rfl, hg⟩ := h.at_
  rw [block_of_add]
  exact hg
theorem Row.put {w : World} {b : Nat} {p : Addr} {n c : Nat} {l : List Nat} (h : Row w b p n c l) (j x : Nat) : Row (w.setCell (p.add j) (.int .u32 (x : Int))) b p n c (l.set j x) := by
  obtain ⟨g, rfl, hg⟩ := h.at_
  have hs := h.own.stored j (.int .u32 (x : Int))
  rw [us_set] at hs
  rw [add_zero_block]
  exact ⟨hs.1, ⟨g, rfl, hg⟩⟩
theorem Row.down {w a : World} {b : Nat} {p : Addr} {n c : Nat} {l : List Nat} (h : Row w b p n c l) (hb : Below b a w) (j x : Nat) : Below b a (w.setCell (p.add j) (.int .u32 (x : Int))) := hb.setCell (h.block j) _
/-- what a closure answers: a row of the call's own -/
def Does (b : Nat) (l : List Nat) (w : World) (e : Ending) (w' : World) : Prop :=
  ∃ A c, e = .returned (.slice A l.length c) ∧ w'.ownsRow b 32 1 (.slice A l.length c) l.length (us l) ∧ Below b w w'

set_option maxRecDepth 100000 in
set_option maxHeartbeats 2000000 in
theorem lclone_any (ad : Addr) (n c : Nat) (l : List Nat) (w : World) (hR : Reads w w.heap.size 1 (some ad) n (us l)) (hn : n ≤ 1000) :
    Calls Tryd.prog 38 #[.slice (some ad) n c] w (Does w.heap.size l w) := by
  obtain ⟨i0, hi0, hz0, hz1, hz2⟩ := info_parts8 cpus_info
  have HL := Lib.hid (usets_len hR)
  have HR := Lib.hid (hR.alloc (Nat.le_refl _) (.cells #[] 32))
  have q22 : ∀ W : World, (binOp .eql 24 (.slice (some ad) n c) (.slice none 0 0)).run Tryd.prog W = .ok (.bool false) W := fun W => Lib.run_eql_slice_nil W _ _ (some ad) n c 0 0 Tryd.underlying24
  clear hR
  go_enter Tryd.func38, Tryd.ntmps38
  go_wp2_with (
    at_builtin
    refine wpList_append_any _ rfl (.tmp 5) (.tmp 6) 24 rfl w.heap.size 32 i0 (.int .u32 0) 1 4 Tryd.underlying24 hi0 hz0 hz1 hz2 rfl (by decide) (.slice (some ⟨w.heap.size, 0, none⟩) 0 0) 0 [] rfl (by simpa using World.ownsRow_made w #[] 0 (Nat.le_refl _) (by simp [maxLen]) (by simp)) w.heap.size (some ad) n c (us l) rfl HR.out (us_ones l) (by simp only [maxLen]; omega) (by omega) (by simp <;> omega) ?_
    intro v2 w2 hown2 hg2 _
    rw [List.nil_append, Nat.zero_add] at hown2
    have B3 := (Below.refl w.heap.size w).alloc (Nat.le_refl _) (.cells #[] 32)
    have HT := Lib.hid (And.intro hown2 (show Below w.heap.size w w2 from B3.grown hg2 B3.size (fun g hg => by simp [Value.ownBlock] at hg; omega)))
    obtain ⟨A2, c2, rfl, hc2, hr2⟩ := own_reads hown2
    clear hown2 hg2 B3 hc2 hr2)
  go_ret
  exact ⟨A2, c2, by rw [HL.out]; rfl, by rw [HL.out]; exact HT.out.1, HT.out.2⟩

set_option maxRecDepth 100000 in
set_option maxHeartbeats 4000000 in
theorem lsplitdo_any (b : Nat) (p : Addr) (n c j bf bs s x y : Nat) (l : List Nat) (w : World) (hRow : Row w b p n c l) (hj : l[j]? = some x) (kf : w.cell? ⟨bf, 0, none⟩ = some (.int .i64 (j : Int))) (ks : w.cell? ⟨bs, 0, none⟩ = some (.int .u32 (s : Int)))
    (hbs : bs < b) (hn : n ≤ 1000) (hsub : bits .andNot .u32 (x : Int) (s : Int) = (y : Int)) (hb : b ≤ w.heap.size) :
    Calls Tryd.prog 21 #[.slice (some p) n c, .pointer (some ⟨bf, 0, none⟩), .pointer (some ⟨bs, 0, none⟩)] w (Does b (l.set j y ++ [s]) w) := by
  obtain ⟨i0, hi0, hz0, hz1, hz2⟩ := info_parts8 cpus_info
  have hl := hRow.len
  have hjl := (List.getElem?_eq_some_iff.1 hj).1
  have j0 : (0 : Int) ≤ (j : Int) := by omega
  have j1 : (j : Int) < (n : Int) := by omega
  have d1 : w.drew.cell? ⟨bf, 0, none⟩ = some (.int .i64 (j : Int)) := kf
  have d2 : w.drew.cell? ⟨bs, 0, none⟩ = some (.int .u32 (s : Int)) := ks
  have d3 := hRow.drew.cell hj
  have d4 := hRow.drew.frozen j
  have HL : Hid ((l.set j y ++ [s]).length = n + 1) := Lib.hid (by simp; omega)
  have HR1 := Lib.hid (hRow.put j y).drew
  have HB1 : Hid (Below b w (w.setCell (p.add j) (.int .u32 (y : Int))).drew) := Lib.hid (hRow.down (Below.refl b w) j y).drew
  have HKs := Lib.hid (fun (u : World) (h : Below b w u) => show u.cell? ⟨bs, 0, none⟩ = some (.int .u32 (s : Int)) from (h.cell (p := ⟨bs, 0, none⟩) hbs).trans ks)
  have HBw := Lib.hid hb
  clear hRow hl hjl hj kf ks hbs
  go_enter Tryd.func21, Tryd.ntmps21
  go_upto_region 1 with fail
  go_region
  have HW1 := Lib.hid (And.intro HR1.out HB1.out)
  clear HR1 HB1 d1 d2 d3 d4
  generalize (w.setCell (p.add j) (.int .u32 (y : Int))).drew = W1 at HW1 ⊢
  have e1 := HKs.out _ HW1.out.2
  go_wp2_with (
    at_builtin
    refine wpList_append_any _ rfl (.tmp 12) (.tmp 14) 24 rfl b 32 i0 (.int .u32 0) 1 4 Tryd.underlying24 hi0 hz0 hz1 hz2 rfl (by decide) (.slice (some p) n c) n (us (l.set j y)) rfl (HW1.out.1.own.alloc _) _ (some ⟨W1.heap.size, 0, none⟩) 1 1 (us [s]) rfl (reads_u1' _ 32 s rfl) (us_ones _) (by simp only [maxLen]; omega) (by omega) (by have h1 := HW1.out.2.size; have h2 := HBw.out; unfold World.alloc; simp <;> omega) ?_
    intro v9 w9 own9 grow9 _
    rw [← us_append] at own9
    have B9' := HW1.out.2.alloc (Nat.le_trans HBw.out HW1.out.2.size) (.cells #[.int .u32 (s : Int)] 32)
    have HT := Lib.hid (And.intro own9 (show Below b w w9 from B9'.grown grow9 (Nat.le_trans HBw.out B9'.size) (fun g hg => (HW1.out.1.own.lt g hg).1)))
    obtain ⟨A9, c9, rfl, _, _⟩ := own_reads own9
    clear own9 grow9 B9')
  go_ret
  exact ⟨A9, c9, by rw [HL.out]; rfl, by rw [HL.out]; exact HT.out.1, HT.out.2⟩

end Go.Proofs.YtnckfgnhlnichaaDoor
