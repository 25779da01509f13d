/-
  The document's gangs: Of, Get. No statement is proved here.
-/
import Derived.Test.YtglphgfaknofcaaKh
import Derived.Test.YtglphgfaknofcaaGr
namespace Go.Proofs.Ytglphgfaknofcaa
open Go.RowKit Go.Maps

/-- the document's Of: the Id of the first gang that has v; 0: none -/
def dofV (l : List Gm) (v : Int) : Int := match l.find? (hasV v) with
  | none => 0
  | some g => g.1
/-- so far none -/
theorem find_from {p : Gm → Bool} {l : List Gm} {k : Nat} {g : Gm} (hk : l[k]? = some g) (hn : ∀ y ∈ l.take k, p y = false) : (p g = true → l.find? p = some g) := by
  intro hp
  have e : l = l.take k ++ g :: l.drop (k + 1) := by rw [← drop_cons hk, List.take_append_drop]
  rw [e, List.find?_append, List.find?_eq_none.2 (fun y hy => by rw [hn y hy]; simp), Option.none_or, List.find?_cons_of_pos hp]

set_option maxRecDepth 100000 in
set_option maxHeartbeats 4000000 in
theorem dof_any (A : Option Addr) (n c : Nat) (gs : List Gn) (v : Int) (w : World) (hG : NW w A n gs) :
    Calls Try.prog 22 #[.agg #[.slice A n c], .int .i64 v] w (Said (.int .i64 (dofV (gsM gs) v)) w) := by
  obtain ⟨K0, GB⟩ := box1 w 24 #[.slice A n c]
  have HG := Lib.hid hG
  have n9 : n ≤ 100 := hG.small
  have HL := Lib.hid hG.len
  have c0 := K0.cell 0
  have HGB := Lib.hid GB
  clear hG K0 GB
  go_enter Try.func22, Try.ntmps22
  go_wp2_with fail
  clear c0
  generalize w.alloc (.cells #[.slice A n c] 24) = w0 at *
  go_loopw [10] (fun iv wr => ∃ k : Nat, k ≤ n ∧ iv = .int .i64 (k : Int) ∧ Hid (∀ y ∈ (gsM gs).take k, hasV v y = false) ∧ Below w.heap.size w wr) (fun iv _ => n - (intOf iv).toNat)
  case atStart => exact ⟨0, by omega, rfl, Lib.hid (by simp), HGB.out⟩
  case round =>
    obtain ⟨k, hk, rfl, HA, hB⟩ := hrel
    by_cases hlt : k < n
    · obtain ⟨⟨id, A2, m, c2, is⟩, hx⟩ := elem_at (l := gs) (k := k) (by rw [HL.out]; exact hlt)
      obtain ⟨ad, rfl, _, d0, d1⟩ := (HG.out.below hB).at_ hx
      have HX := Lib.hid (gsM_at hx)
      have DA := (Below.refl wr.heap.size wr).alloc (Nat.le_refl _) (.cells #[.int .i64 id, .slice A2 m c2] 36)
      have KX := Blk.new wr 36 #[.int .i64 id, .slice A2 m c2]
      have x1 := KX.cell 1
      have HKX := Lib.hid KX
      have HH := Lib.hid (rhas_any A2 m c2 is v _ (((HG.out.below hB).each _ (List.mem_of_getElem? hx)).1.below DA))
      have HB2 := Lib.hid (hB.trans (DA.mono hB.size))
      have HFF := Lib.hid (find_from HX.out HA.out)
      have HTA := Lib.hid (fun h => take_all (p := hasV v) HA.out HX.out h)
      have i1 : (0 : Int) ≤ (k : Int) := by omega
      have i2 : (k : Int) < (n : Int) := by omega
      clear hx hB DA KX
      by_cases hv : v ∈ is
      · rw [decide_eq_true hv] at HH
        have HV : Hid (dofV (gsM gs) v = id) := Lib.hid (by unfold dofV; rw [HFF.out (has_iff.2 hv)]; rfl)
        clear hv
        go_wp2_with fail
        refine HH.out.mono ?_
        rintro e w2 ⟨rfl, h9⟩
        have x0 := (HKX.out.below h9 HKX.out.lt).cell 0
        clear x1 d0 d1
        go_wp2_with fail
        go_ret
        rw [HV.out]
        exact ⟨rfl, HB2.out.trans (h9.mono HB2.out.size)⟩
      · rw [decide_eq_false hv] at HH
        have HA2 := Lib.hid (HTA.out (by cases h : hasV v (gm (id, A2, m, c2, is)) with
          | false => rfl
          | true => exact absurd (has_iff.1 h) hv))
        clear hv
        go_wp2_with fail
        refine HH.out.mono ?_
        rintro e w2 ⟨rfl, h9⟩
        clear x1 d0 d1
        go_wp2_with fail
        go_roundw
        case rel => exact ⟨k + 1, by omega, by go_num, HA2, HB2.out.trans (h9.mono HB2.out.size)⟩
        case measure => simp [intOf]; omega
    · obtain rfl : k = n := by omega
      have HV : Hid (dofV (gsM gs) v = 0) := Lib.hid (by
        have h := HA.out
        rw [List.take_of_length_le (by rw [gsM_len, HL.out]; exact Nat.le_refl _)] at h
        unfold dofV
        rw [List.find?_eq_none.2 (fun y hy => by rw [h y hy]; simp)])
      go_wp2
      go_ret
      rw [HV.out]
      exact ⟨rfl, hB⟩

end Go.Proofs.Ytglphgfaknofcaa
