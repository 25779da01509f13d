/-
  The landed gang: among, Of, Members. No statement is proved here.
-/
import Derived.Test.YtglphgfaknofcaaGo
namespace Go.Proofs.Ytglphgfaknofcaa
open Go.RowKit Go.Maps

theorem firstI_find {α : Type} (p : α → Bool) (l : List α) : (firstI p l = -1 ∧ l.find? p = none) ∨ ∃ (k : Nat) (g : α), firstI p l = (k : Int) ∧ l[k]? = some g ∧ l.find? p = some g ∧ p g = true := by
  unfold firstI
  cases h : l.findIdx? p with
  | none =>
    rw [List.findIdx?_eq_none_iff] at h
    exact .inl ⟨rfl, List.find?_eq_none.2 (fun x hx => by rw [h x hx]; simp)⟩
  | some k =>
    rw [List.findIdx?_eq_some_iff_getElem] at h
    obtain ⟨hk, hp, hn⟩ := h
    refine .inr ⟨k, l[k], rfl, List.getElem?_eq_getElem hk, ?_, hp⟩
    rw [List.find?_eq_some_iff_append]
    refine ⟨hp, l.take k, l.drop (k + 1), ?_, fun y hy => ?_⟩
    · rw [← List.drop_eq_getElem_cons hk, List.take_append_drop]
    · obtain ⟨j, hj⟩ := List.mem_iff_getElem?.1 hy
      have hjk : j < k := by have := (List.getElem?_eq_some_iff.1 hj).1; rw [List.length_take] at this; omega
      rw [List.getElem?_take_of_lt hjk, List.getElem?_eq_getElem (by omega)] at hj
      have := hn j hjk
      rw [← Option.some.inj hj]
      simpa using this
/-- the place of the first of which it holds, or why there is none -/
def amV (p : Gm → Bool) (l : List Gm) : Int × Int := if rightG l = false then (0, 240) else if firstI p l < 0 then (0, 4) else (firstI p l, 0)
theorem am_1 {p : Gm → Bool} {l : List Gm} (h : rightG l = false) : amV p l = (0, 240) := if_pos h
theorem am_2 {p : Gm → Bool} {l : List Gm} (h : rightG l = true) (h2 : firstI p l = -1) : amV p l = (0, 4) := by unfold amV; rw [if_neg (by rw [h]; simp), if_pos (by omega)]
theorem am_3 {p : Gm → Bool} {l : List Gm} (h : rightG l = true) {k : Nat} (h2 : firstI p l = (k : Int)) : amV p l = ((k : Int), 0) := by unfold amV; rw [if_neg (by rw [h]; simp), if_neg (by omega), h2]
/-- in words: the gang found; whether they may be -/
def fndV (p : Gm → Bool) (l : List Gm) : Option Gm := if rightG l = true then l.find? p else none
theorem am_fnd (p : Gm → Bool) (l : List Gm) : (∃ e, amV p l = (0, e) ∧ e ≠ 0 ∧ fndV p l = none ∧ e = (if rightG l = true then 4 else 240)) ∨ ∃ (k : Nat) (g : Gm), amV p l = ((k : Int), 0) ∧ l[k]? = some g ∧ fndV p l = some g ∧ p g = true ∧ rightG l = true ∧ firstI p l = (k : Int) := by
  cases hr : rightG l with
  | false => exact .inl ⟨240, am_1 hr, by omega, by unfold fndV; rw [hr]; rfl, rfl⟩
  | true =>
    rcases firstI_find p l with ⟨h1, h2⟩ | ⟨k, g, h1, h2, h3, h4⟩
    · exact .inl ⟨4, am_2 hr h1, by omega, by unfold fndV; rw [if_pos hr]; exact h2, rfl⟩
    · exact .inr ⟨k, g, am_3 hr h1, h2, by unfold fndV; rw [if_pos hr]; exact h3, h4, rfl, h1⟩

set_option maxRecDepth 100000 in
set_option maxHeartbeats 4000000 in
theorem hasamong_any (A : Option Addr) (n c : Nat) (gs : List Gn) (w : World) (hG : NW w A n gs) (hc : n ≤ c) (vb : Nat) (Av : Option Addr) (nv cv : Nat) (vc : List Int) (h : HV w vb Av nv cv vc) :
    Calls Try.prog 44 #[.agg #[.slice A n c], .func (.func 64) #[] #[.pointer (some ⟨vb, 0, none⟩)]] w (Said (.tuple #[.int .i64 (amV (fun g => havB vc g) (gsM gs)).1, .int .i64 (amV (fun g => havB vc g) (gsM gs)).2]) w) := by
  obtain ⟨K0, GB⟩ := box1 w 24 #[.slice A n c]
  have HC := Lib.hid (fun (u : World) (h : Below w.heap.size w u) => gcheck_any A n c gs u (hG.below h) hc)
  have HI := Lib.hid (fun (u : World) (hu : Below w.heap.size w u) => hasidx_any A n c gs u (hG.below hu) vb Av nv cv vc (h.below hu))
  have hgs : w.heap.size < (w.alloc (.cells #[.slice A n c] 24)).heap.size := by simp
  have HK := Lib.hid K0
  have c0 := K0.cell 0
  clear hG h K0
  generalize hl : gsM gs = l at *
  obtain ⟨p, hp⟩ : ∃ p : Gm → Bool, (fun g => havB vc g) = p := ⟨_, rfl⟩
  rw [hp] at HI ⊢
  clear hp
  cases hr : rightG l with
  | false =>
    rw [am_1 hr]
    rw [show chkG l = 240 from if_neg (by rw [hr]; simp)] at HC
    clear hr
    go_enter Try.func44, Try.ntmps44
    go_wp2_with fail
    refine (HC.out _ GB).mono ?_
    rintro e w1 ⟨rfl, h1⟩
    clear c0
    go_wp2
    go_ret2
    exact ⟨rfl, GB.trans (h1.mono GB.size)⟩
  | true =>
    rw [show chkG l = 0 from if_pos hr] at HC
    rcases firstI_find p l with ⟨h1, _⟩ | ⟨k, g, h1, _⟩
    · rw [am_2 hr h1]
      rw [h1] at HI
      clear hr h1
      go_enter Try.func44, Try.ntmps44
      go_wp2_with fail
      refine (HC.out _ GB).mono ?_
      rintro e w1 ⟨rfl, h1⟩
      have B1 := GB.trans (h1.mono GB.size)
      have c1 := (HK.out.below h1 hgs).cell 0
      clear c0 h1
      go_wp2_with fail
      refine (HI.out _ B1).mono ?_
      rintro e w2 ⟨rfl, h2⟩
      clear c1
      go_wp2
      go_ret2
      exact ⟨rfl, B1.trans (h2.mono B1.size)⟩
    · rw [am_3 hr h1]
      rw [h1] at HI
      have q : ¬ (k : Int) < 0 := by omega
      have q2 : decide ((k : Int) < 0) = false := decide_eq_false (by omega)
      clear hr h1
      go_enter Try.func44, Try.ntmps44
      go_wp2_with fail
      refine (HC.out _ GB).mono ?_
      rintro e w1 ⟨rfl, h1⟩
      have B1 := GB.trans (h1.mono GB.size)
      have c1 := (HK.out.below h1 hgs).cell 0
      clear c0 h1
      go_wp2_with fail
      refine (HI.out _ B1).mono ?_
      rintro e w2 ⟨rfl, h2⟩
      clear c1
      go_wp2
      go_ret2
      exact ⟨rfl, B1.trans (h2.mono B1.size)⟩

set_option maxRecDepth 100000 in
set_option maxHeartbeats 4000000 in
theorem numamong_any (A : Option Addr) (n c : Nat) (gs : List Gn) (w : World) (hG : NW w A n gs) (hc : n ≤ c) (vb : Nat) (i : Int) (h : Blk w vb 3 #[.int .i64 i]) :
    Calls Try.prog 44 #[.agg #[.slice A n c], .func (.func 67) #[] #[.pointer (some ⟨vb, 0, none⟩)]] w (Said (.tuple #[.int .i64 (amV (fun g => g.1 == i) (gsM gs)).1, .int .i64 (amV (fun g => g.1 == i) (gsM gs)).2]) w) := by
  obtain ⟨K0, GB⟩ := box1 w 24 #[.slice A n c]
  have HC := Lib.hid (fun (u : World) (h : Below w.heap.size w u) => gcheck_any A n c gs u (hG.below h) hc)
  have HI := Lib.hid (fun (u : World) (hu : Below w.heap.size w u) => numidx_any A n c gs u (hG.below hu) vb i (h.below hu h.lt))
  have hgs : w.heap.size < (w.alloc (.cells #[.slice A n c] 24)).heap.size := by simp
  have HK := Lib.hid K0
  have c0 := K0.cell 0
  clear hG h K0
  generalize hl : gsM gs = l at *
  obtain ⟨p, hp⟩ : ∃ p : Gm → Bool, (fun g => g.1 == i) = p := ⟨_, rfl⟩
  rw [hp] at HI ⊢
  clear hp
  cases hr : rightG l with
  | false =>
    rw [am_1 hr]
    rw [show chkG l = 240 from if_neg (by rw [hr]; simp)] at HC
    clear hr
    go_enter Try.func44, Try.ntmps44
    go_wp2_with fail
    refine (HC.out _ GB).mono ?_
    rintro e w1 ⟨rfl, h1⟩
    clear c0
    go_wp2
    go_ret2
    exact ⟨rfl, GB.trans (h1.mono GB.size)⟩
  | true =>
    rw [show chkG l = 0 from if_pos hr] at HC
    rcases firstI_find p l with ⟨h1, _⟩ | ⟨k, g, h1, _⟩
    · rw [am_2 hr h1]
      rw [h1] at HI
      clear hr h1
      go_enter Try.func44, Try.ntmps44
      go_wp2_with fail
      refine (HC.out _ GB).mono ?_
      rintro e w1 ⟨rfl, h1⟩
      have B1 := GB.trans (h1.mono GB.size)
      have c1 := (HK.out.below h1 hgs).cell 0
      clear c0 h1
      go_wp2_with fail
      refine (HI.out _ B1).mono ?_
      rintro e w2 ⟨rfl, h2⟩
      clear c1
      go_wp2
      go_ret2
      exact ⟨rfl, B1.trans (h2.mono B1.size)⟩
    · rw [am_3 hr h1]
      rw [h1] at HI
      have q : ¬ (k : Int) < 0 := by omega
      have q2 : decide ((k : Int) < 0) = false := decide_eq_false (by omega)
      clear hr h1
      go_enter Try.func44, Try.ntmps44
      go_wp2_with fail
      refine (HC.out _ GB).mono ?_
      rintro e w1 ⟨rfl, h1⟩
      have B1 := GB.trans (h1.mono GB.size)
      have c1 := (HK.out.below h1 hgs).cell 0
      clear c0 h1
      go_wp2_with fail
      refine (HI.out _ B1).mono ?_
      rintro e w2 ⟨rfl, h2⟩
      clear c1
      go_wp2
      go_ret2
      exact ⟨rfl, B1.trans (h2.mono B1.size)⟩

/-- the gang that a virtual CPU is in -/
def hasV (v : Int) : Gm → Bool := fun g => havB [v] g
def isV (i : Int) : Gm → Bool := fun g => g.1 == i
def ofV (l : List Gm) (v : Int) : Int × Bool := match fndV (hasV v) l with
  | none => (0, false)
  | some g => (g.1, true)
def memV (l : List Gm) (i : Int) : List Int := match fndV (isV i) l with
  | none => []
  | some g => g.2

set_option maxRecDepth 100000 in
set_option maxHeartbeats 8000000 in
theorem of_any2 (A : Option Addr) (n c : Nat) (gs : List Gn) (v : Int) (w : World) (hG : NW w A n gs) (hc : n ≤ c) :
    Calls Try.prog 20 #[.agg #[.slice A n c], .int .i64 v] w (Said (.tuple #[.int .i64 (ofV (gsM gs) v).1, .bool (ofV (gsM gs) v).2]) w) := by
  obtain ⟨K0, GB⟩ := box1 w 24 #[.slice A n c]
  have HG := Lib.hid hG
  have hgs : w.heap.size < (w.alloc (.cells #[.slice A n c] 24)).heap.size := by simp
  have HS : Hid (∀ u, Below (w.alloc (.cells #[.slice A n c] 24)).heap.size (w.alloc (.cells #[.slice A n c] 24)) u → u.cell? ⟨w.heap.size, 0, none⟩ = some (.slice A n c)) := Lib.hid (fun u hu => (K0.below hu hgs).cell 0)
  have HGB := Lib.hid GB
  clear hG K0 GB
  go_enter Try.func20, Try.ntmps20
  go_upto_region 1 with fail
  generalize w.alloc (.cells #[.slice A n c] 24) = w0 at *
  have D0 := (Below.refl w0.heap.size w0).drew
  have k0 := HS.out _ D0
  have D1 := D0.alloc D0.size (.cells #[.int .i64 v] 3)
  have k1 := HS.out _ D1
  have HI : IR (w0.drew.alloc (.cells #[.int .i64 v] 3)) (some ⟨w0.heap.size, 0, none⟩) 1 [v] := ⟨reads_blk (Blk.new w0.drew 3 #[.int .i64 v]) rfl rfl, by omega⟩
  have HHf := Lib.hid (havingf_any (some ⟨w0.heap.size, 0, none⟩) 1 1 [v] _ HI)
  have HAm := Lib.hid (fun (u : World) (hu : Below w0.heap.size w0 u) (vb : Nat) (h : HV u vb (some ⟨w0.heap.size, 0, none⟩) 1 1 [v]) => hasamong_any A n c gs u (HG.out.below (HGB.out.trans (hu.mono HGB.out.size))) hc vb _ 1 1 [v] h)
  have HAE := Lib.hid (am_fnd (hasV v) (gsM gs))
  have e0 : (fun g => havB [v] g) = hasV v := rfl
  rw [e0] at HAm
  obtain ⟨x, hx⟩ : ∃ x, amV (hasV v) (gsM gs) = x := ⟨_, rfl⟩
  rw [hx] at HAm HAE
  clear e0 hx HI
  go_region_held3 (fun u => u.cell? ⟨w.heap.size, 0, none⟩ = some (.slice A n c))
    (first | exact k3 | exact k2 | exact k1 | exact k0)
    (first
      | (go_at_call 44; go_must (refine (HAm.out _ D2 vb hv).mono ?_; rintro e w5 ⟨rfl, h9⟩; have D3 := Lib.hid (D2.trans (h9.mono D2.size)); have k3 := HS.out _ D3.out; clear h9))
      | (go_at_call 40; go_must (refine HHf.out.mono ?_; rintro e w4 ⟨vb, rfl, hv, h9⟩; have D2 := D1.trans (h9.mono D1.size); have k2 := HS.out _ D2; clear h9)))
  have HBE := Lib.hid (HGB.out.trans (D3.out.mono HGB.out.size))
  have c3 := HS.out _ D3.out
  clear k0 k1 k2 k3 D0 D1 D2 hv HHf HAm
  rcases HAE.out with ⟨e, hx, hne, hf, _⟩ | ⟨k, g, hx, hk, hf, _⟩
  · subst hx
    have q0 : (e == 0) = false := by simpa using hne
    have HV : Hid (ofV (gsM gs) v = (0, false)) := Lib.hid (by unfold ofV; rw [hf])
    clear hf c3 HAE
    go_wp2_with fail
    all_goals
      go_ret2
      rw [HV.out]
      exact ⟨rfl, HBE.out⟩
  · subst hx
    have HV : Hid (ofV (gsM gs) v = (g.1, true)) := Lib.hid (by unfold ofV; rw [hf])
    obtain ⟨gn, hgn, hge⟩ : ∃ gn, gs[k]? = some gn ∧ gm gn = g := by
      unfold gsM at hk
      rw [List.getElem?_map] at hk
      exact Option.map_eq_some_iff.1 hk
    subst hge
    obtain ⟨id, A2, m, c2, is⟩ := gn
    obtain ⟨ad, rfl, _, d0, _⟩ := (HG.out.below HBE.out).at_ hgn
    have hkn : k < n := by
      have := (List.getElem?_eq_some_iff.1 hgn).1
      have := HG.out.len
      omega
    have HV : Hid (ofV (gsM gs) v = (id, true)) := HV
    have i1 : (0 : Int) ≤ (k : Int) := by omega
    have i2 : (k : Int) < (n : Int) := by omega
    clear hf hk hgn HAE
    go_wp2_with fail
    go_ret2
    rw [HV.out]
    exact ⟨rfl, HBE.out⟩

/-- numbers in memory of their own -/
def OwnsI (l : List Int) (w : World) (e : Ending) (w' : World) : Prop := ∃ A n c, e = .returned (.slice A n c) ∧ w'.ownsRow w.heap.size 3 1 (.slice A n c) n (vs l) ∧ Below w.heap.size w w'
set_option maxRecDepth 100000 in
set_option maxHeartbeats 8000000 in
theorem members2_any (A : Option Addr) (n c : Nat) (gs : List Gn) (v : Int) (w : World) (hG : NW w A n gs) (hc : n ≤ c) :
    Calls Try.prog 23 #[.agg #[.slice A n c], .int .i64 v] w (OwnsI (memV (gsM gs) v) w) := by
  obtain ⟨K0, GB⟩ := box1 w 24 #[.slice A n c]
  have HG := Lib.hid hG
  have hgs : w.heap.size < (w.alloc (.cells #[.slice A n c] 24)).heap.size := by simp
  have HS : Hid (∀ u, Below (w.alloc (.cells #[.slice A n c] 24)).heap.size (w.alloc (.cells #[.slice A n c] 24)) u → u.cell? ⟨w.heap.size, 0, none⟩ = some (.slice A n c)) := Lib.hid (fun u hu => (K0.below hu hgs).cell 0)
  have HGB := Lib.hid GB
  clear hG K0 GB
  go_enter Try.func23, Try.ntmps23
  go_upto_region 1 with fail
  generalize w.alloc (.cells #[.slice A n c] 24) = w0 at *
  have D0 := (Below.refl w0.heap.size w0).drew
  have k0 := HS.out _ D0
  have HHf := Lib.hid (numberedf_any v w0.drew)
  have HAm := Lib.hid (fun (u : World) (hu : Below w0.heap.size w0 u) (vb : Nat) (h : Blk u vb 3 #[.int .i64 v]) => numamong_any A n c gs u (HG.out.below (HGB.out.trans (hu.mono HGB.out.size))) hc vb v h)
  have HAE := Lib.hid (am_fnd (isV v) (gsM gs))
  have e0 : (fun g : Gm => g.1 == v) = isV v := rfl
  rw [e0] at HAm
  obtain ⟨x, hx⟩ : ∃ x, amV (isV v) (gsM gs) = x := ⟨_, rfl⟩
  rw [hx] at HAm HAE
  clear e0 hx
  go_region_held3 (fun u => u.cell? ⟨w.heap.size, 0, none⟩ = some (.slice A n c))
    (first | exact k3 | exact k2 | exact k0)
    (first
      | (go_at_call 44; go_must (refine (HAm.out _ D2 vb hv).mono ?_; rintro e w5 ⟨rfl, h9⟩; have D3 := Lib.hid (D2.trans (h9.mono D2.size)); have k3 := HS.out _ D3.out; clear h9))
      | (go_at_call 46; go_must (refine HHf.out.mono ?_; rintro e w4 ⟨vb, rfl, hv, h9⟩; have D2 := D0.trans (h9.mono D0.size); have k2 := HS.out _ D2; clear h9)))
  have HBE := Lib.hid (HGB.out.trans (D3.out.mono HGB.out.size))
  have c3 := HS.out _ D3.out
  clear k0 k2 k3 D0 D2 hv HHf HAm
  rcases HAE.out with ⟨e, hx, hne, hf, _⟩ | ⟨k, g, hx, hk, hf, _⟩
  · subst hx
    have q0 : (e == 0) = false := by simpa using hne
    have HV : Hid (memV (gsM gs) v = []) := Lib.hid (by unfold memV; rw [hf])
    clear hf c3 HAE
    go_wp2_with fail
    all_goals
      go_ret
      rw [HV.out]
      exact ⟨none, 0, 0, rfl, World.ownsRow_nil _ _ _ _, HBE.out⟩
  · subst hx
    obtain ⟨gn, hgn, hge⟩ : ∃ gn, gs[k]? = some gn ∧ gm gn = g := by
      unfold gsM at hk
      rw [List.getElem?_map] at hk
      exact Option.map_eq_some_iff.1 hk
    subst hge
    obtain ⟨id, A2, m, c2, is⟩ := gn
    have HV : Hid (memV (gsM gs) v = is) := Lib.hid (by unfold memV; rw [hf]; rfl)
    have hw := HG.out.below HBE.out
    obtain ⟨ad, rfl, _, _, d1⟩ := hw.at_ hgn
    have HCl := Lib.hid (clone_any A2 m c2 is _ (hw.each _ (List.mem_of_getElem? hgn)).1)
    have hkn : k < n := by
      have := (List.getElem?_eq_some_iff.1 hgn).1
      have := HG.out.len
      omega
    have i1 : (0 : Int) ≤ (k : Int) := by omega
    have i2 : (k : Int) < (n : Int) := by omega
    clear hf hk hgn HAE hw
    go_wp2_with fail
    refine HCl.out.mono ?_
    rintro e w6 ⟨A6, c6, rfl, O6, h6⟩
    go_wp2
    go_ret
    rw [HV.out]
    exact ⟨A6, m, c6, rfl, own_down O6 HBE.out.size, HBE.out.trans (h6.mono HBE.out.size)⟩

/-! ### the same? -/
set_option maxRecDepth 100000 in
set_option maxHeartbeats 4000000 in
theorem equal_any (A : Option Addr) (n c : Nat) (is : List Int) (B : Option Addr) (m d : Nat) (js : List Int) (w : World) (h1 : IR w A n is) (h2 : IR w B m js) :
    Calls Try.prog 32 #[.slice A n c, .slice B m d] w (Said (.bool (decide (is = js))) w) := by
  have H1 := Lib.hid h1
  have H2 := Lib.hid h2
  have hl1 := h1.len
  have hl2 := h2.len
  have n9 := h1.small
  clear h1 h2
  by_cases hnm : n = m
  · subst hnm
    have q : ((n : Int) == (n : Int)) = true := by simp
    have HL := Lib.hid (And.intro hl1 hl2)
    clear hl1 hl2
    go_enter Try.func32, Try.ntmps32
    go_wp2_with fail
    go_loopw [13] (fun iv wr => ∃ k q : Nat, k ≤ n ∧ iv = .int .i64 (k : Int) ∧ Hid (is.take k = js.take k) ∧ wr = w.drewN q) (fun iv _ => n - (intOf iv).toNat)
    case atStart => exact ⟨0, 0, by omega, rfl, Lib.hid (by simp), rfl⟩
    case round =>
      obtain ⟨k, q, hk, rfl, HT, rfl⟩ := hrel
      by_cases hlt : k < n
      · obtain ⟨x, hx⟩ := elem_at (l := is) (k := k) (by rw [HL.out.1]; exact hlt)
        obtain ⟨y, hy⟩ := elem_at (l := js) (k := k) (by rw [HL.out.2]; exact hlt)
        obtain ⟨ad, rfl, _, d0⟩ := H1.out.at_ hx
        obtain ⟨ad', rfl, _, d1⟩ := H2.out.at_ hy
        have i1 : (0 : Int) ≤ (k : Int) := by omega
        have i2 : (k : Int) < (n : Int) := by omega
        by_cases hxy : x = y
        · subst hxy
          have v1 : (x == x) = true := by simp
          have HT2 : Hid (is.take (k + 1) = js.take (k + 1)) := Lib.hid (by rw [List.take_add_one, List.take_add_one, hx, hy, HT.out])
          clear hx hy
          go_wp2_with fail
          go_quiet (fail)
          go_wp2
          go_roundw
          case rel => exact ⟨k + 1, q + nq, by omega, by go_num, HT2, rfl⟩
          case measure => simp [intOf]; omega
        · have v1 : (x == y) = false := by simpa using hxy
          have HV : Hid (decide (is = js) = false) := Lib.hid (decide_eq_false (fun e => hxy (by rw [e, hy] at hx; exact (Option.some.inj hx).symm)))
          clear hx hy hxy
          go_wp2_with fail
          go_quiet (fail)
          go_wp2
          go_ret
          exact ⟨retB HV.out.symm, below_drewN (below_drewN (Below.refl _ _) _) _⟩
      · obtain rfl : k = n := by omega
        have HV : Hid (decide (is = js) = true) := Lib.hid (decide_eq_true (by have := HT.out; rwa [List.take_of_length_le (Nat.le_of_eq HL.out.1), List.take_of_length_le (Nat.le_of_eq HL.out.2)] at this))
        go_wp2
        go_ret
        exact ⟨retB HV.out.symm, below_drewN (Below.refl _ _) _⟩
  · have q : ((n : Int) == (m : Int)) = false := by simp; omega
    have HV : Hid (decide (is = js) = false) := Lib.hid (decide_eq_false (fun e => hnm (by rw [← hl1, ← hl2, e])))
    clear hl1 hl2 hnm
    go_enter Try.func32, Try.ntmps32
    go_wp2_with fail
    go_ret
    exact ⟨retB HV.out.symm, Below.refl _ _⟩
set_option maxRecDepth 100000 in
set_option maxHeartbeats 4000000 in
theorem same1_any (g h : Gn) (w : World) (h1 : IR w g.2.1 g.2.2.1 g.2.2.2.2) (h2 : IR w h.2.1 h.2.2.1 h.2.2.2.2) :
    Calls Try.prog 42 #[.agg #[.int .i64 g.1, .slice g.2.1 g.2.2.1 g.2.2.2.1], .agg #[.int .i64 h.1, .slice h.2.1 h.2.2.1 h.2.2.2.1]] w (Said (.bool (decide (gm g = gm h))) w) := by
  obtain ⟨id, A, n, c, is⟩ := g
  obtain ⟨id', B, m, d, js⟩ := h
  obtain ⟨K0, K1, GB⟩ := blks2 w 36 36 #[.int .i64 id, .slice A n c] #[.int .i64 id', .slice B m d]
  have HE := Lib.hid (equal_any A n c is B m d js _ (h1.below GB) (h2.below GB))
  have a0 := K0.cell 0
  have a1 := K0.cell 1
  have b0 := K1.cell 0
  have b1 := K1.cell 1
  have HGB := Lib.hid GB
  show Calls Try.prog 42 #[.agg #[.int .i64 id, .slice A n c], .agg #[.int .i64 id', .slice B m d]] w (Said (.bool (decide ((id, is) = (id', js)))) w)
  have hv : decide ((id, is) = (id', js)) = ((id == id') && decide (is = js)) := by
    by_cases e : id = id'
    · subst e; simp
    · simp [e]
  rw [hv]
  clear h1 h2 K0 K1 GB hv
  cases hid : (id == id') with
  | true =>
    go_enter Try.func42, Try.ntmps42
    go_wp2_with fail
    refine HE.out.mono ?_
    rintro e w2 ⟨rfl, h9⟩
    clear a0 a1 b0 b1
    go_wp2
    go_ret
    exact ⟨retB (by rw [Bool.true_and]), HGB.out.trans (h9.mono HGB.out.size)⟩
  | false =>
    go_enter Try.func42, Try.ntmps42
    go_wp2_with fail
    go_ret
    exact ⟨retB (by rw [Bool.false_and]), HGB.out⟩
set_option maxRecDepth 100000 in
set_option maxHeartbeats 8000000 in
theorem eqfunc_any (A : Option Addr) (n c : Nat) (gs : List Gn) (B : Option Addr) (m d : Nat) (hs : List Gn) (w : World) (hG : NW w A n gs) (hH : NW w B m hs) :
    Calls Try.prog 41 #[.slice A n c, .slice B m d, .func (.func 42) #[] #[]] w (Said (.bool (decide (gsM gs = gsM hs))) w) := by
  have HG := Lib.hid hG
  have HH := Lib.hid hH
  have n9 : n ≤ 100 := hG.small
  have hl1 := hG.len
  have hl2 := hH.len
  clear hG hH
  by_cases hnm : n = m
  · subst hnm
    have q : ((n : Int) == (n : Int)) = true := by simp
    have HL := Lib.hid (And.intro hl1 hl2)
    clear hl1 hl2
    go_enter Try.func41, Try.ntmps41
    go_wp2_with fail
    go_loopw [17] (fun iv wr => ∃ k : Nat, k ≤ n ∧ iv = .int .i64 (k : Int) ∧ Hid ((gsM gs).take k = (gsM hs).take k) ∧ Below w.heap.size w wr) (fun iv _ => n - (intOf iv).toNat)
    case atStart => exact ⟨0, by omega, rfl, Lib.hid (by simp), Below.refl _ _⟩
    case round =>
      obtain ⟨k, hk, rfl, HT, hB⟩ := hrel
      by_cases hlt : k < n
      · obtain ⟨⟨id, A2, m2, c2, is⟩, hx⟩ := elem_at (l := gs) (k := k) (by rw [HL.out.1]; exact hlt)
        obtain ⟨⟨id', B2, m3, c3, js⟩, hy⟩ := elem_at (l := hs) (k := k) (by rw [HL.out.2]; exact hlt)
        obtain ⟨ad, rfl, l1, d0, d1⟩ := (HG.out.below hB).at_ hx
        obtain ⟨ad', rfl, l2, e0, e1⟩ := (HH.out.below hB).at_ hy
        have hw1 := ((HG.out.below hB).each _ (List.mem_of_getElem? hx)).1
        have hw2 := ((HH.out.below hB).each _ (List.mem_of_getElem? hy)).1
        obtain ⟨K1, G1⟩ := box1 wr 36 #[.int .i64 id, .slice A2 m2 c2]
        have hz : (wr.alloc (.cells #[.int .i64 id, .slice A2 m2 c2] 36)).heap.size = wr.heap.size + 1 := by simp
        obtain ⟨K2, G2⟩ := box1 (wr.alloc (.cells #[.int .i64 id, .slice A2 m2 c2] 36)) 36 #[.int .i64 id', .slice B2 m3 c3]
        rw [hz] at K2
        have K1' := K1.alloc (.cells #[.int .i64 id', .slice B2 m3 c3] 36)
        have a0 := K1'.cell 0
        have a1 := K1'.cell 1
        have b0 := K2.cell 0
        have b1 := K2.cell 1
        have G12 := G1.trans (G2.mono G1.size)
        have f0 : (wr.alloc (.cells #[.int .i64 id, .slice A2 m2 c2] 36)).cell? (ad'.add (k * 2)) = some (.int .i64 id') := (G1.cell (by rw [block_of_add]; exact l2)).trans e0
        have f1 : (wr.alloc (.cells #[.int .i64 id, .slice A2 m2 c2] 36)).cell? ⟨(ad'.add (k * 2)).block, (ad'.add (k * 2)).off + 1, none⟩ = some (.slice B2 m3 c3) := (G1.cell (p := ⟨(ad'.add (k * 2)).block, (ad'.add (k * 2)).off + 1, none⟩) (by show (ad'.add (k * 2)).block < _; rw [block_of_add]; exact l2)).trans e1
        have HSm := Lib.hid (same1_any (id, A2, m2, c2, is) (id', B2, m3, c3, js) _ (hw1.below G12) (hw2.below G12))
        have HB := Lib.hid hB
        have HGG := Lib.hid G12
        have HXY := Lib.hid (And.intro (gsM_at hx) (gsM_at hy))
        have i1 : (0 : Int) ≤ (k : Int) := by omega
        have i2 : (k : Int) < (n : Int) := by omega
        generalize gm (id, A2, m2, c2, is) = x at *
        generalize gm (id', B2, m3, c3, js) = y at *
        clear hx hy hw1 hw2 K1 K2 K1' G1 G2 G12 hB hz
        cases hxy : decide (x = y) with
        | true =>
          rw [hxy] at HSm
          have HT2 : Hid ((gsM gs).take (k + 1) = (gsM hs).take (k + 1)) := Lib.hid (by rw [List.take_add_one, List.take_add_one, HXY.out.1, HXY.out.2, HT.out, of_decide_eq_true hxy])
          clear hxy
          go_wp2_with fail
          refine HSm.out.mono ?_
          rintro e w5 ⟨rfl, h9⟩
          have HB5 := Lib.hid (HB.out.trans ((HGG.out.trans (h9.mono HGG.out.size)).mono HB.out.size))
          clear d0 d1 e0 e1 a0 a1 b0 b1 f0 f1 h9
          go_wp2
          go_roundw
          case rel => exact ⟨k + 1, by omega, by go_num, HT2, HB5.out⟩
          case measure => simp [intOf]; omega
        | false =>
          rw [hxy] at HSm
          have HV : Hid (decide (gsM gs = gsM hs) = false) := Lib.hid (decide_eq_false (fun e => of_decide_eq_false hxy (by
            have h1 := HXY.out.1
            rw [e, HXY.out.2] at h1
            exact (Option.some.inj h1).symm)))
          clear hxy
          go_wp2_with fail
          refine HSm.out.mono ?_
          rintro e w5 ⟨rfl, h9⟩
          have HB5 := Lib.hid (HB.out.trans ((HGG.out.trans (h9.mono HGG.out.size)).mono HB.out.size))
          clear d0 d1 e0 e1 a0 a1 b0 b1 f0 f1 h9
          go_wp2
          go_ret
          exact ⟨retB HV.out.symm, HB5.out⟩
      · obtain rfl : k = n := by omega
        have HV : Hid (decide (gsM gs = gsM hs) = true) := Lib.hid (decide_eq_true (by have := HT.out; rwa [List.take_of_length_le (by rw [gsM_len]; exact Nat.le_of_eq HL.out.1), List.take_of_length_le (by rw [gsM_len]; exact Nat.le_of_eq HL.out.2)] at this))
        go_wp2
        go_ret
        exact ⟨retB HV.out.symm, hB⟩
  · have q : ((n : Int) == (m : Int)) = false := by simp; omega
    have HV : Hid (decide (gsM gs = gsM hs) = false) := Lib.hid (decide_eq_false (fun e => hnm (by
      have := congrArg List.length e
      rw [gsM_len, gsM_len, hl1, hl2] at this
      exact this)))
    clear hl1 hl2 hnm
    go_enter Try.func41, Try.ntmps41
    go_wp2_with fail
    go_ret
    exact ⟨retB HV.out.symm, Below.refl _ _⟩
set_option maxRecDepth 100000 in
set_option maxHeartbeats 2000000 in
theorem gsame_any (A : Option Addr) (n c : Nat) (gs : List Gn) (B : Option Addr) (m d : Nat) (hs : List Gn) (w : World) (hG : NW w A n gs) (hH : NW w B m hs) :
    Calls Try.prog 17 #[.agg #[.slice A n c], .agg #[.slice B m d]] w (Said (.bool (decide (gsM gs = gsM hs))) w) := by
  obtain ⟨K0, K1, GB⟩ := blks2 w 24 24 #[.slice A n c] #[.slice B m d]
  have HE := Lib.hid (eqfunc_any A n c gs B m d hs _ (hG.below GB) (hH.below GB))
  have a0 := K0.cell 0
  have b0 := K1.cell 0
  have HGB := Lib.hid GB
  clear hG hH K0 K1 GB
  go_enter Try.func17, Try.ntmps17
  go_wp2_with fail
  refine HE.out.mono ?_
  rintro e w2 ⟨rfl, h9⟩
  clear a0 b0
  go_wp2
  go_ret
  exact ⟨rfl, HGB.out.trans (h9.mono HGB.out.size)⟩

end Go.Proofs.Ytglphgfaknofcaa
