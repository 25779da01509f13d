/-
  The landed gang: gangs as words; having, numbered, and the library's IndexFunc and ContainsFunc over them. No statement is proved here.
-/
import Derived.Test.YtkbgpmgnkegipaaDoorGe
namespace Go.Proofs.YtkbgpmgnkegipaaDoor
open Go.RowKit Go.Maps

/-- a gang that lies somewhere: its Id, its members -/
abbrev Gn := Int × Gg
abbrev Gm := Int × List Int
def gnv (g : Gn) : List Value := [.int .i64 g.1, .slice g.2.1 g.2.2.1 g.2.2.2.1]
theorem length_gnv (g : Gn) : (gnv g).length = 2 := rfl
def gm (g : Gn) : Gm := (g.1, g.2.2.2.2)
def gsM (gs : List Gn) : List Gm := gs.map gm
theorem gsM_at {gs : List Gn} {k : Nat} {g : Gn} (h : gs[k]? = some g) : (gsM gs)[k]? = some (gm g) := by unfold gsM; rw [List.getElem?_map, h]; rfl
theorem gsM_len (gs : List Gn) : (gsM gs).length = gs.length := by simp [gsM]
theorem gsM_take (gs : List Gn) (k : Nat) : gsM (gs.take k) = (gsM gs).take k := by unfold gsM; rw [List.map_take]
structure NW (w : World) (A : Option Addr) (n : Nat) (gs : List Gn) : Prop where
  row : Reads w w.heap.size 2 A n (flat gnv gs)
  small : n ≤ 100
  each : ∀ g ∈ gs, IR w g.2.1 g.2.2.1 g.2.2.2.2 ∧ g.2.2.1 ≤ 100
theorem NW.len {w : World} {A : Option Addr} {n : Nat} {gs : List Gn} (h : NW w A n gs) : gs.length = n := by
  have h1 := h.row.1
  rw [length_flat gnv length_gnv] at h1
  omega
theorem NW.below {w w' : World} {A : Option Addr} {n : Nat} {gs : List Gn} (h : NW w A n gs) (hb : Below w.heap.size w w') : NW w' A n gs :=
  ⟨(h.row.below hb).more hb.size, h.small, fun g hg => ⟨(h.each g hg).1.below hb, (h.each g hg).2⟩⟩
theorem NW.at_ {w : World} {A : Option Addr} {n : Nat} {gs : List Gn} (h : NW w A n gs) {k : Nat} {g : Gn} (hx : gs[k]? = some g) :
    ∃ ad, A = some ad ∧ ad.block < w.heap.size ∧ w.cell? (ad.add (k * 2)) = some (.int .i64 g.1) ∧ w.cell? ⟨(ad.add (k * 2)).block, (ad.add (k * 2)).off + 1, none⟩ = some (.slice g.2.1 g.2.2.1 g.2.2.2.1) := by
  obtain ⟨ad, e, hb, hc⟩ := h.row.elem gnv length_gnv hx (by omega)
  have h0 := hc 0 _ rfl
  have h1 := hc 1 _ rfl
  rw [Nat.add_zero] at h0
  rw [add_past ad (k * 2) 0] at h1
  exact ⟨ad, e, hb, h0, h1⟩
theorem NW.take {w : World} {A : Option Addr} {n : Nat} {gs : List Gn} (h : NW w A n gs) {k : Nat} (hk : k ≤ n) : NW w A k (gs.take k) := by
  have := cut_reads (f := gnv) length_gnv h.row k
  rw [Nat.min_eq_right hk] at this
  exact ⟨this, Nat.le_trans hk h.small, fun g hg => h.each g (List.mem_of_mem_take hg)⟩

/-- has a gang one of these? -/
def havB (vc : List Int) (g : Gm) : Bool := g.2.any fun x => decide (x ∈ vc)
/-- of the vCPUs that are asked for: where they lie -/
structure HV (w : World) (vb : Nat) (A : Option Addr) (n c : Nat) (vc : List Int) : Prop where
  box : Blk w vb 27 #[.slice A n c]
  row : IR w A n vc
theorem HV.below {w w' : World} {vb : Nat} {A : Option Addr} {n c : Nat} {vc : List Int} (h : HV w vb A n c vc) (hb : Below w.heap.size w w') : HV w' vb A n c vc := ⟨h.box.below hb h.box.lt, h.row.below hb⟩

set_option maxRecDepth 100000 in
set_option maxHeartbeats 2000000 in
theorem mem1_any (vb : Nat) (A : Option Addr) (n c : Nat) (vc : List Int) (x : Int) (w : World) (h : HV w vb A n c vc) :
    Calls Tryd.prog 62 #[.int .i64 x, .pointer (some ⟨vb, 0, none⟩)] w (Said (.bool (decide (x ∈ vc))) w) := by
  have c0 := h.box.cell 0
  have HC := Lib.hid (contains_any A n c vc x w h.row)
  clear h
  go_enter Tryd.func62, Tryd.ntmps62
  go_wp2_with fail
  refine HC.out.mono ?_
  rintro e w2 ⟨rfl, h9⟩
  go_wp2_with fail
  go_ret
  exact ⟨rfl, h9⟩

set_option maxRecDepth 100000 in
set_option maxHeartbeats 4000000 in
theorem memidx_any (vb : Nat) (Av : Option Addr) (nv cv : Nat) (vc : List Int) (A : Option Addr) (n c : Nat) (is : List Int) (w : World) (h : HV w vb Av nv cv vc) (hI : IR w A n is) :
    Calls Tryd.prog 32 #[.slice A n c, .func (.func 62) #[] #[.pointer (some ⟨vb, 0, none⟩)]] w (Said (.int .i64 (firstI (fun x => decide (x ∈ vc)) is)) w) := by
  have HL := Lib.hid hI.len
  have n9 := hI.small
  have HR := Lib.hid hI
  have HM := Lib.hid (fun (x : Int) (u : World) (hu : Below w.heap.size w u) => mem1_any vb Av nv cv vc x u (h.below hu))
  clear hI h
  go_enter Tryd.func32, Tryd.ntmps32
  go_wp2_with fail
  go_loopw [8] (fun iv wr => ∃ k : Nat, k ≤ n ∧ iv = .int .i64 (k : Int) ∧ Hid (∀ y ∈ is.take k, decide (y ∈ vc) = false) ∧ Below w.heap.size w wr) (fun iv _ => n - (intOf iv).toNat)
  case atStart => exact ⟨0, by omega, rfl, Lib.hid (by simp), Below.refl _ _⟩
  case round =>
    obtain ⟨k, hk, rfl, HA, hB⟩ := hrel
    by_cases hlt : k < n
    · obtain ⟨x, hx⟩ := elem_at (l := is) (k := k) (by rw [HL.out]; exact hlt)
      obtain ⟨ad, rfl, _, d0⟩ := (HR.out.below hB).at_ hx
      have HX := Lib.hid hx
      have HB := Lib.hid hB
      have HH := Lib.hid (HM.out x wr hB)
      have i1 : (0 : Int) ≤ (k : Int) := by omega
      have i2 : (k : Int) < (n : Int) := by omega
      clear hx hB
      cases he : decide (x ∈ vc) with
      | true =>
        rw [he] at HH
        have HV := Lib.hid (firstI_yes (p := fun x => decide (x ∈ vc)) HX.out he HA.out)
        clear he
        go_wp2_with fail
        refine (HH.out).mono ?_
        rintro e w2 ⟨rfl, h9⟩
        clear d0
        go_wp2
        go_ret
        rw [HV.out]
        exact ⟨rfl, HB.out.trans (h9.mono HB.out.size)⟩
      | false =>
        rw [he] at HH
        have HA2 := Lib.hid (take_all (p := fun x => decide (x ∈ vc)) HA.out HX.out he)
        clear he
        go_wp2_with fail
        refine (HH.out).mono ?_
        rintro e w2 ⟨rfl, h9⟩
        clear d0
        go_wp2
        go_roundw
        case rel => exact ⟨k + 1, by omega, by go_num, HA2, HB.out.trans (h9.mono HB.out.size)⟩
        case measure => simp [intOf]; omega
    · obtain rfl : k = n := by omega
      have HV := Lib.hid (firstI_no (p := fun x => decide (x ∈ vc)) (l := is) (by have := HA.out; rwa [List.take_of_length_le (by rw [HL.out]; exact Nat.le_refl _)] at this))
      go_wp2
      go_ret
      rw [HV.out]
      exact ⟨rfl, hB⟩
set_option maxRecDepth 100000 in
set_option maxHeartbeats 2000000 in
theorem memany_any (vb : Nat) (Av : Option Addr) (nv cv : Nat) (vc : List Int) (A : Option Addr) (n c : Nat) (is : List Int) (w : World) (h : HV w vb Av nv cv vc) (hI : IR w A n is) :
    Calls Tryd.prog 61 #[.slice A n c, .func (.func 62) #[] #[.pointer (some ⟨vb, 0, none⟩)]] w (Said (.bool (is.any fun x => decide (x ∈ vc))) w) := by
  have HI := Lib.hid (memidx_any vb Av nv cv vc A n c is w h hI)
  have HV := Lib.hid (firstI_any (p := fun x => decide (x ∈ vc)) (l := is))
  generalize firstI (fun x => decide (x ∈ vc)) is = r at *
  clear h hI
  go_enter Tryd.func61, Tryd.ntmps61
  go_wp2_with fail
  refine HI.out.mono ?_
  rintro e w2 ⟨rfl, h9⟩
  go_wp2_with fail
  go_ret
  exact ⟨retB HV.out, h9⟩
set_option maxRecDepth 100000 in
set_option maxHeartbeats 2000000 in
theorem having_any (vb : Nat) (Av : Option Addr) (nv cv : Nat) (vc : List Int) (g : Gn) (w : World) (h : HV w vb Av nv cv vc) (hI : IR w g.2.1 g.2.2.1 g.2.2.2.2) :
    Calls Tryd.prog 60 #[.agg #[.int .i64 g.1, .slice g.2.1 g.2.2.1 g.2.2.2.1], .pointer (some ⟨vb, 0, none⟩)] w (Said (.bool (havB vc (gm g))) w) := by
  obtain ⟨id, A, n, c, is⟩ := g
  obtain ⟨K0, GB⟩ := box1 w 54 #[.int .i64 id, .slice A n c]
  have c1 := K0.cell 1
  have HC := Lib.hid (memany_any vb Av nv cv vc A n c is _ (h.below GB) (hI.below GB))
  have HGB := Lib.hid GB
  show Calls Tryd.prog 60 #[.agg #[.int .i64 id, .slice A n c], .pointer (some ⟨vb, 0, none⟩)] w (Said (.bool (is.any fun x => decide (x ∈ vc))) w)
  clear h hI K0 GB
  go_enter Tryd.func60, Tryd.ntmps60
  go_wp2_with fail
  refine HC.out.mono ?_
  rintro e w2 ⟨rfl, h9⟩
  go_wp2_with fail
  go_ret
  exact ⟨rfl, HGB.out.trans (h9.mono HGB.out.size)⟩

set_option maxRecDepth 100000 in
set_option maxHeartbeats 4000000 in
theorem hasidx_any (A : Option Addr) (n c : Nat) (gs : List Gn) (w : World) (hG : NW w A n gs) (vb : Nat) (Av : Option Addr) (nv cv : Nat) (vc : List Int) (h : HV w vb Av nv cv vc) :
    Calls Tryd.prog 59 #[.slice A n c, .func (.func 60) #[] #[.pointer (some ⟨vb, 0, none⟩)]] w (Said (.int .i64 (firstI (fun g => havB vc g) (gsM gs))) w) := by
  have HG := Lib.hid hG
  have n9 : n ≤ 100 := hG.small
  have HL := Lib.hid hG.len
  have HM := Lib.hid (fun (g : Gn) (u : World) (hu : Below w.heap.size w u) (hI : IR u g.2.1 g.2.2.1 g.2.2.2.2) => having_any vb Av nv cv vc g u (h.below hu) hI)
  obtain ⟨p, hp⟩ : ∃ p : Gm → Bool, (fun g => havB vc g) = p := ⟨_, rfl⟩
  have hpx : ∀ g, havB vc g = p g := fun g => by rw [← hp]
  simp only [hpx] at HM
  rw [hp]
  clear hG hp hpx h
  go_enter Tryd.func59, Tryd.ntmps59
  go_wp2_with fail
  go_loopw [8] (fun iv wr => ∃ k : Nat, k ≤ n ∧ iv = .int .i64 (k : Int) ∧ Hid (∀ y ∈ (gsM gs).take k, p y = false) ∧ Below w.heap.size w wr) (fun iv _ => n - (intOf iv).toNat)
  case atStart => exact ⟨0, by omega, rfl, Lib.hid (by simp), Below.refl _ _⟩
  case round =>
    obtain ⟨k, hk, rfl, HA, hB⟩ := hrel
    by_cases hlt : k < n
    · obtain ⟨⟨id, A2, m, c2, is⟩, hx⟩ := elem_at (l := gs) (k := k) (by rw [HL.out]; exact hlt)
      obtain ⟨ad, rfl, _, d0, d1⟩ := (HG.out.below hB).at_ hx
      have HX := Lib.hid (gsM_at hx)
      have HB := Lib.hid hB
      have HH := Lib.hid (HM.out (id, A2, m, c2, is) wr hB ((HG.out.below hB).each _ (List.mem_of_getElem? hx)).1)
      have i1 : (0 : Int) ≤ (k : Int) := by omega
      have i2 : (k : Int) < (n : Int) := by omega
      clear hx hB
      generalize gm (id, A2, m, c2, is) = y at *
      cases he : p y with
      | true =>
        rw [he] at HH
        have HV := Lib.hid (firstI_yes (p := p) HX.out he HA.out)
        clear he
        go_wp2_with fail
        refine (HH.out).mono ?_
        rintro e w2 ⟨rfl, h9⟩
        clear d0 d1
        go_wp2
        go_ret
        rw [HV.out]
        exact ⟨rfl, HB.out.trans (h9.mono HB.out.size)⟩
      | false =>
        rw [he] at HH
        have HA2 := Lib.hid (take_all (p := p) HA.out HX.out he)
        clear he
        go_wp2_with fail
        refine (HH.out).mono ?_
        rintro e w2 ⟨rfl, h9⟩
        clear d0 d1
        go_wp2
        go_roundw
        case rel => exact ⟨k + 1, by omega, by go_num, HA2, HB.out.trans (h9.mono HB.out.size)⟩
        case measure => simp [intOf]; omega
    · obtain rfl : k = n := by omega
      have HV := Lib.hid (firstI_no (p := p) (l := gsM gs) (by have := HA.out; rwa [List.take_of_length_le (by rw [gsM_len, HL.out]; exact Nat.le_refl _)] at this))
      go_wp2
      go_ret
      rw [HV.out]
      exact ⟨rfl, hB⟩


set_option maxRecDepth 100000 in
set_option maxHeartbeats 2000000 in
theorem hasany_any (A : Option Addr) (n c : Nat) (gs : List Gn) (w : World) (hG : NW w A n gs) (vb : Nat) (Av : Option Addr) (nv cv : Nat) (vc : List Int) (h : HV w vb Av nv cv vc) :
    Calls Tryd.prog 46 #[.slice A n c, .func (.func 60) #[] #[.pointer (some ⟨vb, 0, none⟩)]] w (Said (.bool ((gsM gs).any fun g => havB vc g)) w) := by
  have HI := Lib.hid (hasidx_any A n c gs w hG vb Av nv cv vc h)
  have HV := Lib.hid (firstI_any (p := fun g => havB vc g) (l := gsM gs))
  generalize firstI (fun g => havB vc g) (gsM gs) = r at *
  clear hG h
  go_enter Tryd.func46, Tryd.ntmps46
  go_wp2_with fail
  refine HI.out.mono ?_
  rintro e w2 ⟨rfl, h9⟩
  go_wp2_with fail
  go_ret
  exact ⟨retB HV.out, h9⟩

set_option maxRecDepth 100000 in
set_option maxHeartbeats 1000000 in
theorem havingf_any (A : Option Addr) (n c : Nat) (vc : List Int) (w : World) (hI : IR w A n vc) :
    Calls Tryd.prog 47 #[.slice A n c] w fun e w' => ∃ vb, e = .returned (.func (.func 60) #[] #[.pointer (some ⟨vb, 0, none⟩)]) ∧ HV w' vb A n c vc ∧ Below w.heap.size w w' := by
  obtain ⟨K0, GB⟩ := box1 w 27 #[.slice A n c]
  have HE := Lib.hid (And.intro (HV.mk K0 (hI.below GB)) GB)
  clear hI K0 GB
  go_enter Tryd.func47, Tryd.ntmps47
  go_wp2_with fail
  go_ret
  exact ⟨_, rfl, HE.out.1, HE.out.2⟩

end Go.Proofs.YtkbgpmgnkegipaaDoor
