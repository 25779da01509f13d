/-
  The landed mask: search, choose. No statement is proved here.
-/
import Derived.Test.YtcdlhfhachpcdaaDoorMt
import Derived.Laws.EntriesVeiled
namespace Go.Proofs.YtcdlhfhachpcdaaDoor
open Go.RowKit Go.Maps

/-- what a search comes to: a map, and where it lies -/
def SearchSaid (H : List Nat) (s : Nat) (w : World) (e : Ending) (w' : World) : Prop :=
  ∃ (bm : Nat) (D : DataW Unit) (F : Nat → Option Int) (n : Nat), e = .returned (.map (some bm)) ∧ w.heap.size ≤ bm ∧ MapW w' bm n D ∧ Rep D F ∧ Good H (popN s) (popN s + 1) F ∧ Below w.heap.size w w' ∧ (0 < H.length → ∃ v : Int, F s = some v ∧ (fitsN H s = true → ∃ c : Nat, v = (c : Int)))

theorem start_facts (A : Option Addr) (n c : Nat) (l : List (Int × Int)) (w : World) (hR : Reads w w.heap.size 2 A n (mvs l)) (hD : Db w) :
    ∃ W : World, ((((w.alloc (.cells #[.slice A n c] 37)).alloc (.map #[] 0)).alloc (.cells #[.map (some (w.heap.size + 1))] 66)).alloc (.cells #[.nilFunc] 72)) = W ∧ W.cell? ⟨w.heap.size + 1 + 1 + 1, 0, none⟩ = some .nilFunc ∧ W.frozen? ⟨w.heap.size + 1 + 1 + 1, 0, none⟩ = false ∧
    ∃ V : World, W.setCell ⟨w.heap.size + 1 + 1 + 1, 0, none⟩ (.func (.func 46) #[] #[.pointer (some ⟨w.heap.size, 0, none⟩), .pointer (some ⟨w.heap.size + 1 + 1, 0, none⟩), .pointer (some ⟨w.heap.size + 1 + 1 + 1, 0, none⟩)]) = V ∧ Lies w.heap.size (w.heap.size + 1) (w.heap.size + 1 + 1) (w.heap.size + 1 + 1 + 1) A n c l V ∧ Below w.heap.size w V ∧ MapW V (w.heap.size + 1) 0 (.map []) ∧
      V.cell? ⟨w.heap.size + 1 + 1 + 1, 0, none⟩ = some (.func (.func 46) #[] #[.pointer (some ⟨w.heap.size, 0, none⟩), .pointer (some ⟨w.heap.size + 1 + 1, 0, none⟩), .pointer (some ⟨w.heap.size + 1 + 1 + 1, 0, none⟩)]) := by
  have k0 := ((((Blk.new w 37 #[.slice A n c]).alloc (.map #[] 0)).alloc (.cells #[.map (some (w.heap.size + 1))] 66)).alloc (.cells #[.nilFunc] 72))
  have k2 := (Blk.new ((w.alloc (.cells #[.slice A n c] 37)).alloc (.map #[] 0)) 66 #[.map (some (w.heap.size + 1))]).alloc (.cells #[.nilFunc] 72)
  have k3 := Blk.new (((w.alloc (.cells #[.slice A n c] 37)).alloc (.map #[] 0)).alloc (.cells #[.map (some (w.heap.size + 1))] 66)) 72 #[.nilFunc]
  have km := World.ownsMap_made (H := Unit) (w.alloc (.cells #[.slice A n c] 37)) Tryd.prog 23 (plainElem (H := Unit) Tryd.prog 3)
  simp only [World.size_alloc] at k2 k3 km
  have km2 := (km.alloc (.cells #[.map (some (w.heap.size + 1))] 66)).alloc (.cells #[.nilFunc] 72)
  have hb : Below w.heap.size w ((((w.alloc (.cells #[.slice A n c] 37)).alloc (.map #[] 0)).alloc (.cells #[.map (some (w.heap.size + 1))] 66)).alloc (.cells #[.nilFunc] 72)) := ((((Below.refl _ w).alloc (Nat.le_refl _) _).alloc (by simp) _).alloc (by simp; omega) _).alloc (by simp; omega) _
  have hsz : ((((w.alloc (.cells #[.slice A n c] 37)).alloc (.map #[] 0)).alloc (.cells #[.map (some (w.heap.size + 1))] 66)).alloc (.cells #[.nilFunc] 72)).heap.size = w.heap.size + 1 + 1 + 1 + 1 := by simp
  generalize ((((w.alloc (.cells #[.slice A n c] 37)).alloc (.map #[] 0)).alloc (.cells #[.map (some (w.heap.size + 1))] 66)).alloc (.cells #[.nilFunc] 72)) = W at *
  clear km
  have k3' := k3.set_ 0 (.func (.func 46) #[] #[.pointer (some ⟨w.heap.size, 0, none⟩), .pointer (some ⟨w.heap.size + 1 + 1, 0, none⟩), .pointer (some ⟨w.heap.size + 1 + 1 + 1, 0, none⟩)])
  have hb2 : Below w.heap.size w (W.setCell ⟨w.heap.size + 1 + 1 + 1, 0, none⟩ (.func (.func 46) #[] #[.pointer (some ⟨w.heap.size, 0, none⟩), .pointer (some ⟨w.heap.size + 1 + 1, 0, none⟩), .pointer (some ⟨w.heap.size + 1 + 1 + 1, 0, none⟩)])) := hb.setCell (p := ⟨w.heap.size + 1 + 1 + 1, 0, none⟩) (by simp; omega) _
  refine ⟨W, rfl, k3.cell 0, k3.frozen 0, _, rfl, ⟨k0.far (by simp <;> omega) _, k2.far (by simp) _, k3', (hR.below hb2).more (by omega), hD.below hb2 hD.lt, by simp <;> omega, Nat.lt_succ_of_lt hD.lt⟩, hb2, km2.setCell (by simp <;> omega) _, k3'.cell 0⟩

set_option maxRecDepth 100000 in
set_option maxHeartbeats 4000000 in
theorem search_any (A : Option Addr) (n c : Nat) (l : List (Int × Int)) (s : Nat) (w : World) (hR : Reads w w.heap.size 2 A n (mvs l)) (hD : Db w) (hAll : ∀ (k : Nat) (m : Int × Int), l[k]? = some m → rightM m = true) (hU : ∀ (k : Nat) (m : Int × Int), l[k]? = some m → UM m) (h100 : n ≤ 100) (h8 : s < 256) :
    Calls Tryd.prog 42 #[.slice A n c, .int .u32 (s : Int)] w (SearchSaid (hards l) s w) := by
  have hl := masks_len hR
  have hmm := @run_makeMap Tryd.prog
  have hpop : popN s ≤ 8 := cnt_le _ _
  have hcost : costN (popN s) ≤ costN 8 := by
    unfold costN
    exact Nat.mul_le_mul_left _ (Nat.pow_le_pow_right (by omega) hpop)
  have hc8 : costN 8 = 129140163 := by decide
  have HC := Lib.hid (fun (W : World) (S : Lies w.heap.size (w.heap.size + 1) (w.heap.size + 1 + 1) (w.heap.size + 1 + 1 + 1) A n c l W) (hM : MapW W (w.heap.size + 1) 0 (.map [])) =>
    look_any w.heap.size (w.heap.size + 1) (w.heap.size + 1 + 1) (w.heap.size + 1 + 1 + 1) A n c l (popN s) hl hAll hU h100 (by omega) (by omega) (by omega) (popN s) s 0 (fun _ => none) (.map []) 0 W rfl S hM rep_empty (good_start _ _ _) (Nat.zero_le _) h8 (by omega) (by omega))
  rw [List.drop_zero] at HC
  obtain ⟨W, hW, c0, f0, V, hV, LV, BV, MV, c1⟩ := start_facts A n c l w hR hD
  have HL := Lib.hid (And.intro LV (And.intro BV MV))
  have HS := Lib.hid (show 0 < (hards l).length → 0 < (hards l).length from id)
  clear hR hD hAll hU h100 h8 hpop hcost hc8 hl LV BV MV
  go_enter Tryd.func42, Tryd.ntmps42
  go_wp2_with fail
  refine (HC.out V HL.out.1 HL.out.2.2).mono ?_
  rintro e w2 ⟨rfl, g2, D2, F2, n2, hn2, M2, R2, G2, E2, hf2⟩
  have S2 := HL.out.1.grown g2 (by omega) (by omega) (by omega)
  have c2 : w2.cell? ⟨w.heap.size + 1 + 1, 0, none⟩ = some (.map (some (w.heap.size + 1))) := S2.atF.cell 0
  have HE : Hid (SearchSaid (hards l) s w (.returned (.map (some (w.heap.size + 1)))) w2) := Lib.hid ⟨_, D2, F2, n2, rfl, by omega, M2, R2, G2, HL.out.2.1.grown g2 HL.out.2.1.size (by rintro k ⟨rfl⟩; omega), hf2⟩
  clear g2 hn2 M2 R2 G2 E2 hf2 S2 c0 f0 c1 hV hW
  go_wp2
  go_ret
  exact HE.out

end Go.Proofs.YtcdlhfhachpcdaaDoor
