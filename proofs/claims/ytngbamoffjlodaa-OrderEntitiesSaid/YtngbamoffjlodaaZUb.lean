/-
  The contract of the document's entity. No statement is proved here.
-/
import Derived.Test.YtngbamoffjlodaaZUc
import Derived.Test.YtngbamoffjlodaaZRb
namespace Go.Proofs.Ytngbamoffjlodaa
open Go.RowKit Go.Maps
set_option linter.unusedSimpArgs false

/-- an entity that is being laid -/
structure EJ (w V : World) (A : Option Addr) (n c : Nat) (Am : Option Addr) (m cm h l x o : Nat) (f : Bool) (is : List Int) : Prop where
  kq : Blk V w.heap.size 26 #[.slice A n c]
  kz : Blk V (w.heap.size + 1) 47 #[.slice none 0 0, .int .u64 0, .int .u64 0, .int .u64 0, .int .u64 0, .bool false]
  ke : Blk V (w.heap.size + 1 + 1) 47 #[.slice Am m cm, .int .u64 (h : Int), .int .u64 (l : Int), .int .u64 (x : Int), .int .u64 (o : Int), .bool f]
  row : V.ownsRow (w.heap.size + 1 + 1 + 1) 3 1 (.slice Am m cm) m (vs is)
  below : Below w.heap.size w V
section
variable {w V V' : World} {A Am : Option Addr} {n c m cm h l x o : Nat} {f : Bool} {is : List Int}
theorem EJ.size (H : EJ w V A n c Am m cm h l x o f is) : w.heap.size + 1 + 1 + 1 ≤ V.heap.size := H.ke.lt
theorem EJ.bel (H : EJ w V A n c Am m cm h l x o f is) (hb : Below V.heap.size V V') : EJ w V' A n c Am m cm h l x o f is :=
  ⟨H.kq.below hb H.kq.lt, H.kz.below hb H.kz.lt, H.ke.below hb H.ke.lt, own_below H.row hb, H.below.trans (hb.mono H.below.size)⟩
theorem EJ.time (H : EJ w V A n c Am m cm h l x o f is) (h' l' x' : Nat) :
    EJ w (((V.setCell ⟨w.heap.size + 1 + 1, 1, none⟩ (.int .u64 (h' : Int))).setCell ⟨w.heap.size + 1 + 1, 2, none⟩ (.int .u64 (l' : Int))).setCell ⟨w.heap.size + 1 + 1, 3, none⟩ (.int .u64 (x' : Int))) A n c Am m cm h' l' x' o f is := by
  have hl : w.heap.size + 1 + 1 < w.heap.size + 1 + 1 + 1 := by omega
  refine ⟨((H.kq.far (p := ⟨w.heap.size + 1 + 1, 1, none⟩) (by show w.heap.size ≠ w.heap.size + 1 + 1; omega) _).far (p := ⟨w.heap.size + 1 + 1, 2, none⟩) (by show w.heap.size ≠ w.heap.size + 1 + 1; omega) _).far (p := ⟨w.heap.size + 1 + 1, 3, none⟩) (by show w.heap.size ≠ w.heap.size + 1 + 1; omega) _,
    ((H.kz.far (p := ⟨w.heap.size + 1 + 1, 1, none⟩) (by show w.heap.size + 1 ≠ w.heap.size + 1 + 1; omega) _).far (p := ⟨w.heap.size + 1 + 1, 2, none⟩) (by show w.heap.size + 1 ≠ w.heap.size + 1 + 1; omega) _).far (p := ⟨w.heap.size + 1 + 1, 3, none⟩) (by show w.heap.size + 1 ≠ w.heap.size + 1 + 1; omega) _,
    ?_, own_set (own_set (own_set H.row hl 1 _) hl 2 _) hl 3 _,
    ((H.below.setCell (p := ⟨w.heap.size + 1 + 1, 1, none⟩) (by show w.heap.size ≤ w.heap.size + 1 + 1; omega) _).setCell (p := ⟨w.heap.size + 1 + 1, 2, none⟩) (by show w.heap.size ≤ w.heap.size + 1 + 1; omega) _).setCell (p := ⟨w.heap.size + 1 + 1, 3, none⟩) (by show w.heap.size ≤ w.heap.size + 1 + 1; omega) _⟩
  have := ((H.ke.set_ 1 (.int .u64 (h' : Int))).set_ 2 (.int .u64 (l' : Int))).set_ 3 (.int .u64 (x' : Int))
  simpa using this
theorem EJ.ord (H : EJ w V A n c Am m cm h l x o f is) (o' : Nat) : EJ w (V.setCell ⟨w.heap.size + 1 + 1, 4, none⟩ (.int .u64 (o' : Int))) A n c Am m cm h l x o' f is := by
  refine ⟨H.kq.far (p := ⟨w.heap.size + 1 + 1, 4, none⟩) (by show w.heap.size ≠ w.heap.size + 1 + 1; omega) _, H.kz.far (p := ⟨w.heap.size + 1 + 1, 4, none⟩) (by show w.heap.size + 1 ≠ w.heap.size + 1 + 1; omega) _, ?_, own_set H.row (by omega) 4 _, H.below.setCell (p := ⟨w.heap.size + 1 + 1, 4, none⟩) (by show w.heap.size ≤ w.heap.size + 1 + 1; omega) _⟩
  have := H.ke.set_ 4 (.int .u64 (o' : Int))
  simpa using this
theorem EJ.fresh (H : EJ w V A n c Am m cm h l x o f is) (f' : Bool) : EJ w (V.setCell ⟨w.heap.size + 1 + 1, 5, none⟩ (.bool f')) A n c Am m cm h l x o f' is := by
  refine ⟨H.kq.far (p := ⟨w.heap.size + 1 + 1, 5, none⟩) (by show w.heap.size ≠ w.heap.size + 1 + 1; omega) _, H.kz.far (p := ⟨w.heap.size + 1 + 1, 5, none⟩) (by show w.heap.size + 1 ≠ w.heap.size + 1 + 1; omega) _, ?_, own_set H.row (by omega) 5 _, H.below.setCell (p := ⟨w.heap.size + 1 + 1, 5, none⟩) (by show w.heap.size ≤ w.heap.size + 1 + 1; omega) _⟩
  have := H.ke.set_ 5 (.bool f')
  simpa using this
theorem EJ.app (H : EJ w V A n c Am m cm h l x o f is) (ob : Obj) {W : World} {A9 : Option Addr} {c9 : Nat} {is' : List Int} (hg : (V.alloc ob).grownBy W (Value.slice Am m cm).ownBlock)
    (ho : W.ownsRow (w.heap.size + 1 + 1 + 1) 3 1 (.slice A9 (m + 1) c9) (m + 1) (vs is')) :
    EJ w (W.setCell ⟨w.heap.size + 1 + 1, 0, none⟩ (.slice A9 (m + 1) c9)) A n c A9 (m + 1) c9 h l x o f is' := by
  have hr := H.row.alloc ob
  have k1 := (H.kq.alloc ob).own hr hg (by omega)
  have k2 := (H.kz.alloc ob).own hr hg (by omega)
  have k3 := (H.ke.alloc ob).own hr hg (by omega)
  have hb := (H.below.alloc H.below.size ob).grown hg (H.below.alloc H.below.size ob).size (fun g hg => by have := (H.row.lt g hg).1; omega)
  refine ⟨k1.far (p := ⟨w.heap.size + 1 + 1, 0, none⟩) (by show w.heap.size ≠ w.heap.size + 1 + 1; omega) _, k2.far (p := ⟨w.heap.size + 1 + 1, 0, none⟩) (by show w.heap.size + 1 ≠ w.heap.size + 1 + 1; omega) _, ?_, own_set ho (by omega) 0 _, hb.setCell (p := ⟨w.heap.size + 1 + 1, 0, none⟩) (by show w.heap.size ≤ w.heap.size + 1 + 1; omega) _⟩
  have := k3.set_ 0 (.slice A9 (m + 1) c9)
  simpa using this
end

theorem cmpI_pos (a b : Nat) : 0 < cmpI a b ↔ b < a := by
  unfold cmpI
  split
  · omega
  · split <;> omega
def EntOut (P : List Pt) (w : World) (e : Ending) (w' : World) : Prop := ∃ Am cm, e = .returned (.tuple #[.agg (agE Am P.length cm (entS P).2.1.1 (entS P).2.1.2.1 (entS P).2.1.2.2 (entS P).2.2.1 (entS P).2.2.2), .bool (decide (0 < P.length))]) ∧
  w'.ownsRow w.heap.size 3 1 (.slice Am P.length cm) P.length (vs (idsP P)) ∧ Below w.heap.size w w'

set_option maxRecDepth 100000 in
set_option maxHeartbeats 16000000 in
theorem eentity_any (A : Option Addr) (n c : Nat) (qs : List Rn) (A' : Option Addr) (n' c' : Nat) (ws : List Wt) (A2 : Option Addr) (n2 c2 : Nat) (g : List Int) (w : World) (hG : QR w A n c qs) (hW : WT w A' n' c' ws) (hl : ws.length = qs.length) (hL : LG (pts qs ws)) (hI : IR w A2 n2 g) :
    Calls Try.prog 47 #[.agg #[.slice A n c], .slice A' n' c', .slice A2 n2 c2] w (EntOut (amongP (pts qs ws) g (pts qs ws).length) w) := by
  obtain ⟨i0, hi0, hz0, hz1, hz2⟩ := info_parts9 int_info
  have HQ := Lib.hid hG
  have HW := Lib.hid hW
  have HI := Lib.hid hI
  have HLG := Lib.hid hL
  have hnn : n' = n := by rw [← hW.len, hl, hG.len]
  subst hnn
  have hn := hG.small
  have HQL := Lib.hid hG.len
  have HWL := Lib.hid hW.len
  have HPL : Hid ((pts qs ws).length = n') := Lib.hid (by rw [pts_len hl]; exact hG.len)
  have HAT := Lib.hid (fun (k : Nat) (r : Rn) (v : Wt) (hr : qs[k]? = some r) (hw : ws[k]? = some v) => pts_at hr hw)
  obtain ⟨K0, K1, K2, GB⟩ := blks3 w 26 47 47 #[.slice A n' c] #[.slice none 0 0, .int .u64 0, .int .u64 0, .int .u64 0, .int .u64 0, .bool false] #[.slice none 0 0, .int .u64 0, .int .u64 0, .int .u64 0, .int .u64 0, .bool true]
  have z0 := K0.cell 0
  have E0 : EJ w _ A n' c none 0 0 0 0 0 0 true [] := ⟨K0, K1, K2, World.ownsRow_nil _ _ _ _, GB⟩
  generalize pts qs ws = PL at *
  obtain ⟨PE, hPE⟩ : ∃ P, amongP PL g PL.length = P := ⟨_, rfl⟩
  rw [hPE]
  have HPE := Lib.hid hPE
  clear hPE
  clear hG hW hl hL hI K0 K1 K2 GB
  go_enter Try.func47, Try.ntmps47
  go_wp2_with fail
  clear z0
  generalize hV : World.alloc _ _ = V at E0 ⊢
  clear hV
  go_loopw [15] (fun i wr => ∃ (k : Nat) (Am : Option Addr) (cm : Nat), k ≤ n' ∧ i = .int .i64 (k : Int) ∧ Hid (EJ w wr A n' c Am (amongP PL g k).length cm (entS (amongP PL g k)).2.1.1 (entS (amongP PL g k)).2.1.2.1 (entS (amongP PL g k)).2.1.2.2 (entS (amongP PL g k)).2.2.1 (entS (amongP PL g k)).2.2.2 (idsP (amongP PL g k)))) (fun i _ => n' - (intOf i).toNat)
  case atStart => exact ⟨0, none, 0, Nat.zero_le _, rfl, Lib.hid E0⟩
  case round =>
    clear E0
    obtain ⟨k, Am, cm, hk, rfl, HE⟩ := hrel
    by_cases hlt : k < n'
    · obtain ⟨⟨ri, a, h, l, x⟩, hx⟩ := elem_at (l := qs) (k := k) (by rw [HQL.out]; exact hlt)
      obtain ⟨⟨i, o, f⟩, hy⟩ := elem_at (l := ws) (k := k) (by rw [HWL.out]; exact hlt)
      have hp := HAT.out k _ _ hx hy
      have HP := Lib.hid hp
      have hpm := List.mem_of_getElem? hp
      have HU : Hid (h < 2 ^ 64 ∧ l < 2 ^ 64 ∧ x < 2 ^ 64 ∧ o ≤ 4611686018427387904) := Lib.hid ⟨(HLG.out.u64 _ hpm).1, (HLG.out.u64 _ hpm).2.1, (HLG.out.u64 _ hpm).2.2, HLG.out.ord _ hpm⟩
      obtain ⟨ad, rfl, _, d0, d1, d2, d3, d4⟩ := rn_at ((HQ.out.below HE.out.below).row) hx
      have i1 : (0 : Int) ≤ (k : Int) := by omega
      have i2 : (k : Int) < (n' : Int) := by omega
      have HWC := Lib.hid (fun (u : World) (hu : Below w.heap.size w u) => (HW.out.below hu).at_ hy)
      have KR := Blk.new wr 59 #[.int .i64 ri, .int .i64 a, .int .u64 (h : Int), .int .u64 (l : Int), .int .u64 (x : Int)]
      have HE1 := Lib.hid (HE.out.bel ((Below.refl wr.heap.size wr).alloc (Nat.le_refl _) (.cells #[.int .i64 ri, .int .i64 a, .int .u64 (h : Int), .int .u64 (l : Int), .int .u64 (x : Int)] 59)))
      have HLE : Hid ((amongP PL g k).length ≤ n') := Lib.hid (by rw [← HPL.out]; exact among_le PL g k)
      have HEF := Lib.hid (entS_facts (P := amongP PL g k) HLG.out (fun p hp => among_mem hp))
      have HIDS : Hid ((amongP PL g k).length = (idsP (amongP PL g k)).length) := Lib.hid (by unfold idsP; rw [List.length_map])
      have y0 := KR.cell 0
      have HHAS := Lib.hid (fun (b : Bool) (hb : decide (ri ∈ g) = b) (u : World) (hu : Below w.heap.size w u) => show Calls Try.prog 46 #[.slice A2 n2 c2, .int .i64 ri] u (fun e w' => e = .returned (.bool b) ∧ u = w') from by
        have := rhas_any A2 n2 c2 g ri u ⟨(HI.out.row.below hu).more hu.size, HI.out.small⟩
        rwa [hb] at this)
      have HRU : Hid (w.heap.size + 1 + 1 + 1 ≤ wr.heap.size) := Lib.hid HE.out.size
      clear hx hy hp hpm
      cases hmem : decide (ri ∈ g) with
      | false =>
        have HA := Lib.hid (among_no HP.out hmem)
        have HH := Lib.hid (fun u hu => HHAS.out false hmem u hu)
        clear hmem HHAS KR
        go_wp2_with fail
        refine (HH.out _ HE1.out.below).mono ?_
        rintro e w2 ⟨rfl, rfl⟩
        go_wp2_with fail
        go_roundw
        case rel => exact ⟨k + 1, Am, cm, by omega, by go_num, by rw [HA.out]; exact HE1⟩
        case measure => simp [intOf] <;> omega
      | true =>
        have HA := Lib.hid (among_yes HP.out hmem)
        have HH := Lib.hid (fun u hu => HHAS.out true hmem u hu)
        have KRH := Lib.hid KR
        clear hmem HHAS KR
        go_wp2_with fail
        refine (HH.out _ HE1.out.below).mono ?_
        rintro e w2 ⟨rfl, rfl⟩
        clear d0 d1 d2 d3 d4 y0
        have HID2 : Hid (idsP (amongP PL g (k + 1)) = idsP (amongP PL g k) ++ [ri]) := Lib.hid (by rw [HA.out]; unfold idsP; simp)
        have HLN2 : Hid ((amongP PL g (k + 1)).length = (amongP PL g k).length + 1) := Lib.hid (by rw [HA.out, List.length_append]; rfl)
        have HONE := Lib.hid (fun (h0 : (amongP PL g k).length = 0) => show entS (amongP PL g (k + 1)) = ([ri], (h, l, x), o, f) from by rw [HA.out, List.eq_nil_of_length_eq_zero h0]; exact entS_one HU.out.2.2.2)
        have HNIL := Lib.hid (fun (h0 : (amongP PL g k).length = 0) => show entS (amongP PL g k) = ([], (0, 0, 0), 0, true) ∧ idsP (amongP PL g k) = [] from by rw [List.eq_nil_of_length_eq_zero h0]; exact ⟨if_pos rfl, rfl⟩)
        have HMORE := Lib.hid (fun (h0 : (amongP PL g k).length ≠ 0) => (congrArg entS HA.out).trans (entS_snoc (p := (ri, (a, h, l, x), o, f)) (fun e => h0 (by rw [e]; rfl))))
        obtain ⟨ad', rfl, _, q0, q1, q2⟩ := HWC.out _ HE1.out.below
        have HWX : Hid (∀ u, Below w.heap.size w u → u.cell? ⟨(ad'.add (k * 3)).block, (ad'.add (k * 3)).off + 1, none⟩ = some (.int .u64 (o : Int)) ∧ u.cell? ⟨(ad'.add (k * 3)).block, (ad'.add (k * 3)).off + 2, none⟩ = some (.bool f)) := Lib.hid (fun u hu => by
          obtain ⟨ad2, e, _, _, e1, e2⟩ := HWC.out u hu
          injection e with e
          subst e
          exact ⟨e1, e2⟩)
        clear q0 q1 q2 HWC
        generalize hX : wr.alloc _ = X at HE1 KRH ⊢
        clear hX
        have HAL : Hid (w.heap.size + 1 + 1 ≠ wr.heap.size) := Lib.hid (by have := HRU.out; omega)
        generalize wr.heap.size = r at *
        obtain ⟨m, hm⟩ : ∃ m, (amongP PL g k).length = m := ⟨_, rfl⟩
        rw [hm] at HE1 HLN2 HONE HNIL HMORE HLE
        have hm1000 : m ≤ 1000 := by have := HLE.out; omega
        obtain ⟨ES, hES⟩ : ∃ E, entS (amongP PL g k) = E := ⟨_, rfl⟩
        rw [hES] at HE1 HEF HMORE HNIL
        obtain ⟨IS, hIS⟩ : ∃ E, idsP (amongP PL g k) = E := ⟨_, rfl⟩
        rw [hIS] at HE1 HID2 HNIL
        obtain ⟨EI, ⟨eh, el, ex⟩, eo, ef⟩ := ES
        have HE1 : Hid (EJ w X (some ad) n' c Am m cm eh el ex eo ef IS) := HE1
        clear hm hES hIS HE HIDS HA HP HLE
        by_cases hm0 : m = 0
        · obtain ⟨n1, rfl⟩ := HNIL.out hm0
          simp only [Prod.mk.injEq] at n1
          obtain ⟨rfl, ⟨rfl, rfl, rfl⟩, rfl, rfl⟩ := n1
          subst hm0
          have HLEAF := Lib.hid (HONE.out rfl)
          have HE1 : Hid (EJ w X (some ad) n' c Am 0 cm 0 0 0 0 true []) := HE1
          clear HONE HNIL HMORE HEF
          have e0 := HE1.out.ke.cell 0
          have e1 := HE1.out.ke.cell 1
          have e2 := HE1.out.ke.cell 2
          have e3 := HE1.out.ke.cell 3
          have e4 := HE1.out.ke.cell 4
          have e5 := HE1.out.ke.cell 5
          have f1 := HE1.out.ke.frozen 1
          have f2 := HE1.out.ke.frozen 2
          have f3 := HE1.out.ke.frozen 3
          have f4 := HE1.out.ke.frozen 4
          have f5 := HE1.out.ke.frozen 5
          have r0 := KRH.out.cell 0
          have r2 := KRH.out.cell 2
          have r3 := KRH.out.cell 3
          have r4 := KRH.out.cell 4
          obtain ⟨q1, q2⟩ := HWX.out _ HE1.out.below
          go_wp2_with fail
          clear e0 e1 e2 e3 e4 e5 f1 f2 f3 f4 f5 r0 r2 r3 r4 q1 q2
          have HY7 := Lib.hid (HE1.out.time h l x)
          have KY7 := Lib.hid (((KRH.out.far (p := ⟨w.heap.size + 1 + 1, 1, none⟩) (by have := HAL.out; exact this.symm) (.int .u64 (h : Int))).far (p := ⟨w.heap.size + 1 + 1, 2, none⟩) (by have := HAL.out; exact this.symm) (.int .u64 (l : Int))).far (p := ⟨w.heap.size + 1 + 1, 3, none⟩) (by have := HAL.out; exact this.symm) (.int .u64 (x : Int)))
          generalize (((X.setCell ⟨w.heap.size + 1 + 1, 1, none⟩ (.int .u64 (h : Int))).setCell ⟨w.heap.size + 1 + 1, 2, none⟩ (.int .u64 (l : Int))).setCell ⟨w.heap.size + 1 + 1, 3, none⟩ (.int .u64 (x : Int))) = Y7 at HY7 KY7 ⊢
          clear HE1 KRH
          have e0 := HY7.out.ke.cell 0
          have e1 := HY7.out.ke.cell 1
          have e2 := HY7.out.ke.cell 2
          have e3 := HY7.out.ke.cell 3
          have e4 := HY7.out.ke.cell 4
          have e5 := HY7.out.ke.cell 5
          have f1 := HY7.out.ke.frozen 1
          have f2 := HY7.out.ke.frozen 2
          have f3 := HY7.out.ke.frozen 3
          have f4 := HY7.out.ke.frozen 4
          have f5 := HY7.out.ke.frozen 5
          have r0 := KY7.out.cell 0
          have r2 := KY7.out.cell 2
          have r3 := KY7.out.cell 3
          have r4 := KY7.out.cell 4
          obtain ⟨q1, q2⟩ := HWX.out _ HY7.out.below
          go_quiet (fail)
          have HY8 := Lib.hid (HY7.out.bel (below_drewN (Below.refl _ _) nq))
          have KY8 := Lib.hid (KY7.out.drewN nq)
          generalize World.drewN _ _ = Y8 at HY8 KY8 ⊢
          clear HY7 KY7
          clear e0 e1 e2 e3 e4 e5 f1 f2 f3 f4 f5 r0 r2 r3 r4 q1 q2
          have e0 := HY8.out.ke.cell 0
          have e1 := HY8.out.ke.cell 1
          have e2 := HY8.out.ke.cell 2
          have e3 := HY8.out.ke.cell 3
          have e4 := HY8.out.ke.cell 4
          have e5 := HY8.out.ke.cell 5
          have f1 := HY8.out.ke.frozen 1
          have f2 := HY8.out.ke.frozen 2
          have f3 := HY8.out.ke.frozen 3
          have f4 := HY8.out.ke.frozen 4
          have f5 := HY8.out.ke.frozen 5
          have r0 := KY8.out.cell 0
          have r2 := KY8.out.cell 2
          have r3 := KY8.out.cell 3
          have r4 := KY8.out.cell 4
          obtain ⟨q1, q2⟩ := HWX.out _ HY8.out.below
          go_upto_region 10 with fail
          have HY9 := Lib.hid (HY8.out.ord o)
          have KY9 := Lib.hid (KY8.out.far (p := ⟨w.heap.size + 1 + 1, 4, none⟩) (by have := HAL.out; exact this.symm) (.int .u64 (o : Int)))
          generalize Y8.setCell ⟨w.heap.size + 1 + 1, 4, none⟩ (.int .u64 (o : Int)) = Y9 at HY9 KY9 ⊢
          clear HY8 KY8
          clear e0 e1 e2 e3 e4 e5 f1 f2 f3 f4 f5 r0 r2 r3 r4 q1 q2
          have e0 := HY9.out.ke.cell 0
          have e1 := HY9.out.ke.cell 1
          have e2 := HY9.out.ke.cell 2
          have e3 := HY9.out.ke.cell 3
          have e4 := HY9.out.ke.cell 4
          have e5 := HY9.out.ke.cell 5
          have f1 := HY9.out.ke.frozen 1
          have f2 := HY9.out.ke.frozen 2
          have f3 := HY9.out.ke.frozen 3
          have f4 := HY9.out.ke.frozen 4
          have f5 := HY9.out.ke.frozen 5
          have r0 := KY9.out.cell 0
          have r2 := KY9.out.cell 2
          have r3 := KY9.out.cell 3
          have r4 := KY9.out.cell 4
          obtain ⟨q1, q2⟩ := HWX.out _ HY9.out.below
          have HYa := Lib.hid (HY9.out.fresh f)
          have KYa := Lib.hid (KY9.out.far (p := ⟨w.heap.size + 1 + 1, 5, none⟩) (by have := HAL.out; exact this.symm) (.bool f))
          have e0a := HYa.out.ke.cell 0
          have r0a := KYa.out.cell 0
          have hsz := HY9.out.size
          clear HY9 KY9
          go_wp2_with (
            at_builtin
            (refine wpList_append_any _ rfl (.tmp 71) (.tmp 74) 40 rfl (w.heap.size + 1 + 1 + 1) 3 i0 (.int .i64 0) 1 8 Try.underlying40 hi0 hz0 hz1 hz2 rfl (by decide) (.slice Am 0 cm) 0 (vs ([] : List Int)) rfl (HYa.out.row.alloc _) _ (some ⟨Y9.heap.size, 0, none⟩) 1 1 (vs [ri]) rfl (reads_int1 _ _ ri (by simp)) (vs_ones _) (by simp only [maxLen]; omega) (by omega) (by simp; omega) ?_)
            intro v9 w9 own9 grow9 _
            rw [← vs_append] at own9
            obtain ⟨A9, c9, rfl, _, _⟩ := own_reads own9
            have HYb := Lib.hid (HYa.out.app _ grow9 own9)
            have k9 := (HYa.out.ke.alloc (.cells #[.int .i64 ri] 3)).own (HYa.out.row.alloc (.cells #[.int .i64 ri] 3)) grow9 (by omega)
            have g0 := k9.cell 0
            have g1 := k9.frozen 0
            clear own9 grow9 k9)
          go_roundw
          case rel => exact ⟨k + 1, A9, c9, by omega, by go_num, Lib.hid (by rw [HLN2.out, HLEAF.out, HID2.out]; exact HYb.out)⟩
          case measure => simp [intOf] <;> omega
        · have m0 : ((m : Int) == 0) = false := by simp; omega
          have hlm := HMORE.out hm0
          have hu := HU.out
          have hef := HEF.out
          have HRC := Lib.hid (fun u => rcompare_any h l x eh el ex u hu.1 hu.2.1 hu.2.2.1 hef.1 hef.2.1 hef.2.2.1)
          have HCP := Lib.hid (cmpI_pos ((h * 2 ^ 64 + l) * ex) ((eh * 2 ^ 64 + el) * x))
          have HLM := Lib.hid (show entS (amongP PL g (k + 1)) = (EI ++ [ri], (if (eh * 2 ^ 64 + el) * x < (h * 2 ^ 64 + l) * ex then (h, l, x) else (eh, el, ex)), (if o < eo then o else eo), (ef && f)) from hlm)
          unfold fr at HRC
          obtain ⟨cv, hcv⟩ : ∃ v, cmpI ((h * 2 ^ 64 + l) * ex) ((eh * 2 ^ 64 + el) * x) = v := ⟨_, rfl⟩
          rw [hcv] at HRC HCP
          obtain ⟨va, hva⟩ : ∃ v, (h * 2 ^ 64 + l) * ex = v := ⟨_, rfl⟩
          rw [hva] at HLM HCP
          obtain ⟨vb, hvb⟩ : ∃ v, (eh * 2 ^ 64 + el) * x = v := ⟨_, rfl⟩
          rw [hvb] at HLM HCP
          clear hcv hva hvb
          clear hu hef hlm HMORE HONE HNIL HEF hm0
          have e0 := HE1.out.ke.cell 0
          have e1 := HE1.out.ke.cell 1
          have e2 := HE1.out.ke.cell 2
          have e3 := HE1.out.ke.cell 3
          have e4 := HE1.out.ke.cell 4
          have e5 := HE1.out.ke.cell 5
          have f1 := HE1.out.ke.frozen 1
          have f2 := HE1.out.ke.frozen 2
          have f3 := HE1.out.ke.frozen 3
          have f4 := HE1.out.ke.frozen 4
          have f5 := HE1.out.ke.frozen 5
          have r0 := KRH.out.cell 0
          have r2 := KRH.out.cell 2
          have r3 := KRH.out.cell 3
          have r4 := KRH.out.cell 4
          obtain ⟨q1, q2⟩ := HWX.out _ HE1.out.below
          go_wp2_with fail
          refine (HRC.out _).mono ?_
          rintro e Y ⟨rfl, h9⟩
          have HY := Lib.hid (HE1.out.bel h9)
          have KY := Lib.hid (KRH.out.below h9 KRH.out.lt)
          clear h9 HE1 KRH
          clear e0 e1 e2 e3 e4 e5 f1 f2 f3 f4 f5 r0 r2 r3 r4 q1 q2
          cases ef with
          | true =>
            by_cases ht : vb < va
            · have t1 : decide ((0 : Int) < cv) = true := decide_eq_true (HCP.out.2 ht)
              by_cases ho : o < eo
              · have o1 : decide ((o : Int) < (eo : Int)) = true := decide_eq_true (by omega)
                have o2 : decide (o < eo) = true := decide_eq_true ho
                have o3 : o < eo := ho
                have HLEAF : Hid (entS (amongP PL g (k + 1)) = (EI ++ [ri], (h, l, x), o, f)) := Lib.hid (by rw [HLM.out, if_pos ht, if_pos ho]; rfl)
                clear ht ho HLM HCP
                have e0 := HY.out.ke.cell 0
                have e1 := HY.out.ke.cell 1
                have e2 := HY.out.ke.cell 2
                have e3 := HY.out.ke.cell 3
                have e4 := HY.out.ke.cell 4
                have e5 := HY.out.ke.cell 5
                have f1 := HY.out.ke.frozen 1
                have f2 := HY.out.ke.frozen 2
                have f3 := HY.out.ke.frozen 3
                have f4 := HY.out.ke.frozen 4
                have f5 := HY.out.ke.frozen 5
                have r0 := KY.out.cell 0
                have r2 := KY.out.cell 2
                have r3 := KY.out.cell 3
                have r4 := KY.out.cell 4
                obtain ⟨q1, q2⟩ := HWX.out _ HY.out.below
                go_wp2_with fail
                clear e0 e1 e2 e3 e4 e5 f1 f2 f3 f4 f5 r0 r2 r3 r4 q1 q2
                have HY7 := Lib.hid (HY.out.time h l x)
                have KY7 := Lib.hid (((KY.out.far (p := ⟨w.heap.size + 1 + 1, 1, none⟩) (by have := HAL.out; exact this.symm) (.int .u64 (h : Int))).far (p := ⟨w.heap.size + 1 + 1, 2, none⟩) (by have := HAL.out; exact this.symm) (.int .u64 (l : Int))).far (p := ⟨w.heap.size + 1 + 1, 3, none⟩) (by have := HAL.out; exact this.symm) (.int .u64 (x : Int)))
                generalize (((Y.setCell ⟨w.heap.size + 1 + 1, 1, none⟩ (.int .u64 (h : Int))).setCell ⟨w.heap.size + 1 + 1, 2, none⟩ (.int .u64 (l : Int))).setCell ⟨w.heap.size + 1 + 1, 3, none⟩ (.int .u64 (x : Int))) = Y7 at HY7 KY7 ⊢
                clear HY KY
                have e0 := HY7.out.ke.cell 0
                have e1 := HY7.out.ke.cell 1
                have e2 := HY7.out.ke.cell 2
                have e3 := HY7.out.ke.cell 3
                have e4 := HY7.out.ke.cell 4
                have e5 := HY7.out.ke.cell 5
                have f1 := HY7.out.ke.frozen 1
                have f2 := HY7.out.ke.frozen 2
                have f3 := HY7.out.ke.frozen 3
                have f4 := HY7.out.ke.frozen 4
                have f5 := HY7.out.ke.frozen 5
                have r0 := KY7.out.cell 0
                have r2 := KY7.out.cell 2
                have r3 := KY7.out.cell 3
                have r4 := KY7.out.cell 4
                obtain ⟨q1, q2⟩ := HWX.out _ HY7.out.below
                go_quiet (fail)
                have HY8 := Lib.hid (HY7.out.bel (below_drewN (Below.refl _ _) nq))
                have KY8 := Lib.hid (KY7.out.drewN nq)
                generalize World.drewN _ _ = Y8 at HY8 KY8 ⊢
                clear HY7 KY7
                clear e0 e1 e2 e3 e4 e5 f1 f2 f3 f4 f5 r0 r2 r3 r4 q1 q2
                have e0 := HY8.out.ke.cell 0
                have e1 := HY8.out.ke.cell 1
                have e2 := HY8.out.ke.cell 2
                have e3 := HY8.out.ke.cell 3
                have e4 := HY8.out.ke.cell 4
                have e5 := HY8.out.ke.cell 5
                have f1 := HY8.out.ke.frozen 1
                have f2 := HY8.out.ke.frozen 2
                have f3 := HY8.out.ke.frozen 3
                have f4 := HY8.out.ke.frozen 4
                have f5 := HY8.out.ke.frozen 5
                have r0 := KY8.out.cell 0
                have r2 := KY8.out.cell 2
                have r3 := KY8.out.cell 3
                have r4 := KY8.out.cell 4
                obtain ⟨q1, q2⟩ := HWX.out _ HY8.out.below
                go_upto_region 10 with fail
                have HY9 := Lib.hid (HY8.out.ord o)
                have KY9 := Lib.hid (KY8.out.far (p := ⟨w.heap.size + 1 + 1, 4, none⟩) (by have := HAL.out; exact this.symm) (.int .u64 (o : Int)))
                generalize Y8.setCell ⟨w.heap.size + 1 + 1, 4, none⟩ (.int .u64 (o : Int)) = Y9 at HY9 KY9 ⊢
                clear HY8 KY8
                clear e0 e1 e2 e3 e4 e5 f1 f2 f3 f4 f5 r0 r2 r3 r4 q1 q2
                have e0 := HY9.out.ke.cell 0
                have e1 := HY9.out.ke.cell 1
                have e2 := HY9.out.ke.cell 2
                have e3 := HY9.out.ke.cell 3
                have e4 := HY9.out.ke.cell 4
                have e5 := HY9.out.ke.cell 5
                have f1 := HY9.out.ke.frozen 1
                have f2 := HY9.out.ke.frozen 2
                have f3 := HY9.out.ke.frozen 3
                have f4 := HY9.out.ke.frozen 4
                have f5 := HY9.out.ke.frozen 5
                have r0 := KY9.out.cell 0
                have r2 := KY9.out.cell 2
                have r3 := KY9.out.cell 3
                have r4 := KY9.out.cell 4
                obtain ⟨q1, q2⟩ := HWX.out _ HY9.out.below
                have HYa := Lib.hid (HY9.out.fresh f)
                have KYa := Lib.hid (KY9.out.far (p := ⟨w.heap.size + 1 + 1, 5, none⟩) (by have := HAL.out; exact this.symm) (.bool f))
                have e0a := HYa.out.ke.cell 0
                have r0a := KYa.out.cell 0
                have hsz := HY9.out.size
                clear HY9 KY9
                go_wp2_with (
                  at_builtin
                  (refine wpList_append_any _ rfl (.tmp 71) (.tmp 74) 40 rfl (w.heap.size + 1 + 1 + 1) 3 i0 (.int .i64 0) 1 8 Try.underlying40 hi0 hz0 hz1 hz2 rfl (by decide) (.slice Am m cm) m (vs IS) rfl (HYa.out.row.alloc _) _ (some ⟨Y9.heap.size, 0, none⟩) 1 1 (vs [ri]) rfl (reads_int1 _ _ ri (by simp)) (vs_ones _) (by simp only [maxLen]; omega) (by omega) (by simp; omega) ?_)
                  intro v9 w9 own9 grow9 _
                  rw [← vs_append] at own9
                  obtain ⟨A9, c9, rfl, _, _⟩ := own_reads own9
                  have HYb := Lib.hid (HYa.out.app _ grow9 own9)
                  have k9 := (HYa.out.ke.alloc (.cells #[.int .i64 ri] 3)).own (HYa.out.row.alloc (.cells #[.int .i64 ri] 3)) grow9 (by omega)
                  have g0 := k9.cell 0
                  have g1 := k9.frozen 0
                  clear own9 grow9 k9)
                go_roundw
                case rel => exact ⟨k + 1, A9, c9, by omega, by go_num, Lib.hid (by rw [HLN2.out, HLEAF.out, HID2.out]; exact HYb.out)⟩
                case measure => simp [intOf] <;> omega
              · have o1 : decide ((o : Int) < (eo : Int)) = false := decide_eq_false (by omega)
                have o2 : decide (o < eo) = false := decide_eq_false ho
                have o3 : ¬ o < eo := ho
                have HLEAF : Hid (entS (amongP PL g (k + 1)) = (EI ++ [ri], (h, l, x), eo, f)) := Lib.hid (by rw [HLM.out, if_pos ht, if_neg ho]; rfl)
                clear ht ho HLM HCP
                have e0 := HY.out.ke.cell 0
                have e1 := HY.out.ke.cell 1
                have e2 := HY.out.ke.cell 2
                have e3 := HY.out.ke.cell 3
                have e4 := HY.out.ke.cell 4
                have e5 := HY.out.ke.cell 5
                have f1 := HY.out.ke.frozen 1
                have f2 := HY.out.ke.frozen 2
                have f3 := HY.out.ke.frozen 3
                have f4 := HY.out.ke.frozen 4
                have f5 := HY.out.ke.frozen 5
                have r0 := KY.out.cell 0
                have r2 := KY.out.cell 2
                have r3 := KY.out.cell 3
                have r4 := KY.out.cell 4
                obtain ⟨q1, q2⟩ := HWX.out _ HY.out.below
                go_wp2_with fail
                clear e0 e1 e2 e3 e4 e5 f1 f2 f3 f4 f5 r0 r2 r3 r4 q1 q2
                have HY7 := Lib.hid (HY.out.time h l x)
                have KY7 := Lib.hid (((KY.out.far (p := ⟨w.heap.size + 1 + 1, 1, none⟩) (by have := HAL.out; exact this.symm) (.int .u64 (h : Int))).far (p := ⟨w.heap.size + 1 + 1, 2, none⟩) (by have := HAL.out; exact this.symm) (.int .u64 (l : Int))).far (p := ⟨w.heap.size + 1 + 1, 3, none⟩) (by have := HAL.out; exact this.symm) (.int .u64 (x : Int)))
                generalize (((Y.setCell ⟨w.heap.size + 1 + 1, 1, none⟩ (.int .u64 (h : Int))).setCell ⟨w.heap.size + 1 + 1, 2, none⟩ (.int .u64 (l : Int))).setCell ⟨w.heap.size + 1 + 1, 3, none⟩ (.int .u64 (x : Int))) = Y7 at HY7 KY7 ⊢
                clear HY KY
                have e0 := HY7.out.ke.cell 0
                have e1 := HY7.out.ke.cell 1
                have e2 := HY7.out.ke.cell 2
                have e3 := HY7.out.ke.cell 3
                have e4 := HY7.out.ke.cell 4
                have e5 := HY7.out.ke.cell 5
                have f1 := HY7.out.ke.frozen 1
                have f2 := HY7.out.ke.frozen 2
                have f3 := HY7.out.ke.frozen 3
                have f4 := HY7.out.ke.frozen 4
                have f5 := HY7.out.ke.frozen 5
                have r0 := KY7.out.cell 0
                have r2 := KY7.out.cell 2
                have r3 := KY7.out.cell 3
                have r4 := KY7.out.cell 4
                obtain ⟨q1, q2⟩ := HWX.out _ HY7.out.below
                go_quiet (fail)
                have HY8 := Lib.hid (HY7.out.bel (below_drewN (Below.refl _ _) nq))
                have KY8 := Lib.hid (KY7.out.drewN nq)
                generalize World.drewN _ _ = Y8 at HY8 KY8 ⊢
                clear HY7 KY7
                clear e0 e1 e2 e3 e4 e5 f1 f2 f3 f4 f5 r0 r2 r3 r4 q1 q2
                have e0 := HY8.out.ke.cell 0
                have e1 := HY8.out.ke.cell 1
                have e2 := HY8.out.ke.cell 2
                have e3 := HY8.out.ke.cell 3
                have e4 := HY8.out.ke.cell 4
                have e5 := HY8.out.ke.cell 5
                have f1 := HY8.out.ke.frozen 1
                have f2 := HY8.out.ke.frozen 2
                have f3 := HY8.out.ke.frozen 3
                have f4 := HY8.out.ke.frozen 4
                have f5 := HY8.out.ke.frozen 5
                have r0 := KY8.out.cell 0
                have r2 := KY8.out.cell 2
                have r3 := KY8.out.cell 3
                have r4 := KY8.out.cell 4
                obtain ⟨q1, q2⟩ := HWX.out _ HY8.out.below
                have HYa := Lib.hid (HY8.out.fresh f)
                have KYa := Lib.hid (KY8.out.far (p := ⟨w.heap.size + 1 + 1, 5, none⟩) (by have := HAL.out; exact this.symm) (.bool f))
                have e0a := HYa.out.ke.cell 0
                have r0a := KYa.out.cell 0
                have hsz := HY8.out.size
                clear HY8 KY8
                go_wp2_with (
                  at_builtin
                  (refine wpList_append_any _ rfl (.tmp 71) (.tmp 74) 40 rfl (w.heap.size + 1 + 1 + 1) 3 i0 (.int .i64 0) 1 8 Try.underlying40 hi0 hz0 hz1 hz2 rfl (by decide) (.slice Am m cm) m (vs IS) rfl (HYa.out.row.alloc _) _ (some ⟨Y8.heap.size, 0, none⟩) 1 1 (vs [ri]) rfl (reads_int1 _ _ ri (by simp)) (vs_ones _) (by simp only [maxLen]; omega) (by omega) (by simp; omega) ?_)
                  intro v9 w9 own9 grow9 _
                  rw [← vs_append] at own9
                  obtain ⟨A9, c9, rfl, _, _⟩ := own_reads own9
                  have HYb := Lib.hid (HYa.out.app _ grow9 own9)
                  have k9 := (HYa.out.ke.alloc (.cells #[.int .i64 ri] 3)).own (HYa.out.row.alloc (.cells #[.int .i64 ri] 3)) grow9 (by omega)
                  have g0 := k9.cell 0
                  have g1 := k9.frozen 0
                  clear own9 grow9 k9)
                go_roundw
                case rel => exact ⟨k + 1, A9, c9, by omega, by go_num, Lib.hid (by rw [HLN2.out, HLEAF.out, HID2.out]; exact HYb.out)⟩
                case measure => simp [intOf] <;> omega
            · have t1 : decide ((0 : Int) < cv) = false := decide_eq_false (fun h => ht (HCP.out.1 h))
              by_cases ho : o < eo
              · have o1 : decide ((o : Int) < (eo : Int)) = true := decide_eq_true (by omega)
                have o2 : decide (o < eo) = true := decide_eq_true ho
                have o3 : o < eo := ho
                have HLEAF : Hid (entS (amongP PL g (k + 1)) = (EI ++ [ri], (eh, el, ex), o, f)) := Lib.hid (by rw [HLM.out, if_neg ht, if_pos ho]; rfl)
                clear ht ho HLM HCP
                have e0 := HY.out.ke.cell 0
                have e1 := HY.out.ke.cell 1
                have e2 := HY.out.ke.cell 2
                have e3 := HY.out.ke.cell 3
                have e4 := HY.out.ke.cell 4
                have e5 := HY.out.ke.cell 5
                have f1 := HY.out.ke.frozen 1
                have f2 := HY.out.ke.frozen 2
                have f3 := HY.out.ke.frozen 3
                have f4 := HY.out.ke.frozen 4
                have f5 := HY.out.ke.frozen 5
                have r0 := KY.out.cell 0
                have r2 := KY.out.cell 2
                have r3 := KY.out.cell 3
                have r4 := KY.out.cell 4
                obtain ⟨q1, q2⟩ := HWX.out _ HY.out.below
                go_wp2_with fail
                clear e0 e1 e2 e3 e4 e5 f1 f2 f3 f4 f5 r0 r2 r3 r4 q1 q2
                have e0 := HY.out.ke.cell 0
                have e1 := HY.out.ke.cell 1
                have e2 := HY.out.ke.cell 2
                have e3 := HY.out.ke.cell 3
                have e4 := HY.out.ke.cell 4
                have e5 := HY.out.ke.cell 5
                have f1 := HY.out.ke.frozen 1
                have f2 := HY.out.ke.frozen 2
                have f3 := HY.out.ke.frozen 3
                have f4 := HY.out.ke.frozen 4
                have f5 := HY.out.ke.frozen 5
                have r0 := KY.out.cell 0
                have r2 := KY.out.cell 2
                have r3 := KY.out.cell 3
                have r4 := KY.out.cell 4
                obtain ⟨q1, q2⟩ := HWX.out _ HY.out.below
                go_quiet (fail)
                have HY8 := Lib.hid (HY.out.bel (below_drewN (Below.refl _ _) nq))
                have KY8 := Lib.hid (KY.out.drewN nq)
                generalize World.drewN _ _ = Y8 at HY8 KY8 ⊢
                clear HY KY
                clear e0 e1 e2 e3 e4 e5 f1 f2 f3 f4 f5 r0 r2 r3 r4 q1 q2
                have e0 := HY8.out.ke.cell 0
                have e1 := HY8.out.ke.cell 1
                have e2 := HY8.out.ke.cell 2
                have e3 := HY8.out.ke.cell 3
                have e4 := HY8.out.ke.cell 4
                have e5 := HY8.out.ke.cell 5
                have f1 := HY8.out.ke.frozen 1
                have f2 := HY8.out.ke.frozen 2
                have f3 := HY8.out.ke.frozen 3
                have f4 := HY8.out.ke.frozen 4
                have f5 := HY8.out.ke.frozen 5
                have r0 := KY8.out.cell 0
                have r2 := KY8.out.cell 2
                have r3 := KY8.out.cell 3
                have r4 := KY8.out.cell 4
                obtain ⟨q1, q2⟩ := HWX.out _ HY8.out.below
                go_upto_region 10 with fail
                have HY9 := Lib.hid (HY8.out.ord o)
                have KY9 := Lib.hid (KY8.out.far (p := ⟨w.heap.size + 1 + 1, 4, none⟩) (by have := HAL.out; exact this.symm) (.int .u64 (o : Int)))
                generalize Y8.setCell ⟨w.heap.size + 1 + 1, 4, none⟩ (.int .u64 (o : Int)) = Y9 at HY9 KY9 ⊢
                clear HY8 KY8
                clear e0 e1 e2 e3 e4 e5 f1 f2 f3 f4 f5 r0 r2 r3 r4 q1 q2
                have e0 := HY9.out.ke.cell 0
                have e1 := HY9.out.ke.cell 1
                have e2 := HY9.out.ke.cell 2
                have e3 := HY9.out.ke.cell 3
                have e4 := HY9.out.ke.cell 4
                have e5 := HY9.out.ke.cell 5
                have f1 := HY9.out.ke.frozen 1
                have f2 := HY9.out.ke.frozen 2
                have f3 := HY9.out.ke.frozen 3
                have f4 := HY9.out.ke.frozen 4
                have f5 := HY9.out.ke.frozen 5
                have r0 := KY9.out.cell 0
                have r2 := KY9.out.cell 2
                have r3 := KY9.out.cell 3
                have r4 := KY9.out.cell 4
                obtain ⟨q1, q2⟩ := HWX.out _ HY9.out.below
                have HYa := Lib.hid (HY9.out.fresh f)
                have KYa := Lib.hid (KY9.out.far (p := ⟨w.heap.size + 1 + 1, 5, none⟩) (by have := HAL.out; exact this.symm) (.bool f))
                have e0a := HYa.out.ke.cell 0
                have r0a := KYa.out.cell 0
                have hsz := HY9.out.size
                clear HY9 KY9
                go_wp2_with (
                  at_builtin
                  (refine wpList_append_any _ rfl (.tmp 71) (.tmp 74) 40 rfl (w.heap.size + 1 + 1 + 1) 3 i0 (.int .i64 0) 1 8 Try.underlying40 hi0 hz0 hz1 hz2 rfl (by decide) (.slice Am m cm) m (vs IS) rfl (HYa.out.row.alloc _) _ (some ⟨Y9.heap.size, 0, none⟩) 1 1 (vs [ri]) rfl (reads_int1 _ _ ri (by simp)) (vs_ones _) (by simp only [maxLen]; omega) (by omega) (by simp; omega) ?_)
                  intro v9 w9 own9 grow9 _
                  rw [← vs_append] at own9
                  obtain ⟨A9, c9, rfl, _, _⟩ := own_reads own9
                  have HYb := Lib.hid (HYa.out.app _ grow9 own9)
                  have k9 := (HYa.out.ke.alloc (.cells #[.int .i64 ri] 3)).own (HYa.out.row.alloc (.cells #[.int .i64 ri] 3)) grow9 (by omega)
                  have g0 := k9.cell 0
                  have g1 := k9.frozen 0
                  clear own9 grow9 k9)
                go_roundw
                case rel => exact ⟨k + 1, A9, c9, by omega, by go_num, Lib.hid (by rw [HLN2.out, HLEAF.out, HID2.out]; exact HYb.out)⟩
                case measure => simp [intOf] <;> omega
              · have o1 : decide ((o : Int) < (eo : Int)) = false := decide_eq_false (by omega)
                have o2 : decide (o < eo) = false := decide_eq_false ho
                have o3 : ¬ o < eo := ho
                have HLEAF : Hid (entS (amongP PL g (k + 1)) = (EI ++ [ri], (eh, el, ex), eo, f)) := Lib.hid (by rw [HLM.out, if_neg ht, if_neg ho]; rfl)
                clear ht ho HLM HCP
                have e0 := HY.out.ke.cell 0
                have e1 := HY.out.ke.cell 1
                have e2 := HY.out.ke.cell 2
                have e3 := HY.out.ke.cell 3
                have e4 := HY.out.ke.cell 4
                have e5 := HY.out.ke.cell 5
                have f1 := HY.out.ke.frozen 1
                have f2 := HY.out.ke.frozen 2
                have f3 := HY.out.ke.frozen 3
                have f4 := HY.out.ke.frozen 4
                have f5 := HY.out.ke.frozen 5
                have r0 := KY.out.cell 0
                have r2 := KY.out.cell 2
                have r3 := KY.out.cell 3
                have r4 := KY.out.cell 4
                obtain ⟨q1, q2⟩ := HWX.out _ HY.out.below
                go_wp2_with fail
                clear e0 e1 e2 e3 e4 e5 f1 f2 f3 f4 f5 r0 r2 r3 r4 q1 q2
                have e0 := HY.out.ke.cell 0
                have e1 := HY.out.ke.cell 1
                have e2 := HY.out.ke.cell 2
                have e3 := HY.out.ke.cell 3
                have e4 := HY.out.ke.cell 4
                have e5 := HY.out.ke.cell 5
                have f1 := HY.out.ke.frozen 1
                have f2 := HY.out.ke.frozen 2
                have f3 := HY.out.ke.frozen 3
                have f4 := HY.out.ke.frozen 4
                have f5 := HY.out.ke.frozen 5
                have r0 := KY.out.cell 0
                have r2 := KY.out.cell 2
                have r3 := KY.out.cell 3
                have r4 := KY.out.cell 4
                obtain ⟨q1, q2⟩ := HWX.out _ HY.out.below
                go_quiet (fail)
                have HY8 := Lib.hid (HY.out.bel (below_drewN (Below.refl _ _) nq))
                have KY8 := Lib.hid (KY.out.drewN nq)
                generalize World.drewN _ _ = Y8 at HY8 KY8 ⊢
                clear HY KY
                clear e0 e1 e2 e3 e4 e5 f1 f2 f3 f4 f5 r0 r2 r3 r4 q1 q2
                have e0 := HY8.out.ke.cell 0
                have e1 := HY8.out.ke.cell 1
                have e2 := HY8.out.ke.cell 2
                have e3 := HY8.out.ke.cell 3
                have e4 := HY8.out.ke.cell 4
                have e5 := HY8.out.ke.cell 5
                have f1 := HY8.out.ke.frozen 1
                have f2 := HY8.out.ke.frozen 2
                have f3 := HY8.out.ke.frozen 3
                have f4 := HY8.out.ke.frozen 4
                have f5 := HY8.out.ke.frozen 5
                have r0 := KY8.out.cell 0
                have r2 := KY8.out.cell 2
                have r3 := KY8.out.cell 3
                have r4 := KY8.out.cell 4
                obtain ⟨q1, q2⟩ := HWX.out _ HY8.out.below
                have HYa := Lib.hid (HY8.out.fresh f)
                have KYa := Lib.hid (KY8.out.far (p := ⟨w.heap.size + 1 + 1, 5, none⟩) (by have := HAL.out; exact this.symm) (.bool f))
                have e0a := HYa.out.ke.cell 0
                have r0a := KYa.out.cell 0
                have hsz := HY8.out.size
                clear HY8 KY8
                go_wp2_with (
                  at_builtin
                  (refine wpList_append_any _ rfl (.tmp 71) (.tmp 74) 40 rfl (w.heap.size + 1 + 1 + 1) 3 i0 (.int .i64 0) 1 8 Try.underlying40 hi0 hz0 hz1 hz2 rfl (by decide) (.slice Am m cm) m (vs IS) rfl (HYa.out.row.alloc _) _ (some ⟨Y8.heap.size, 0, none⟩) 1 1 (vs [ri]) rfl (reads_int1 _ _ ri (by simp)) (vs_ones _) (by simp only [maxLen]; omega) (by omega) (by simp; omega) ?_)
                  intro v9 w9 own9 grow9 _
                  rw [← vs_append] at own9
                  obtain ⟨A9, c9, rfl, _, _⟩ := own_reads own9
                  have HYb := Lib.hid (HYa.out.app _ grow9 own9)
                  have k9 := (HYa.out.ke.alloc (.cells #[.int .i64 ri] 3)).own (HYa.out.row.alloc (.cells #[.int .i64 ri] 3)) grow9 (by omega)
                  have g0 := k9.cell 0
                  have g1 := k9.frozen 0
                  clear own9 grow9 k9)
                go_roundw
                case rel => exact ⟨k + 1, A9, c9, by omega, by go_num, Lib.hid (by rw [HLN2.out, HLEAF.out, HID2.out]; exact HYb.out)⟩
                case measure => simp [intOf] <;> omega
          | false =>
            by_cases ht : vb < va
            · have t1 : decide ((0 : Int) < cv) = true := decide_eq_true (HCP.out.2 ht)
              by_cases ho : o < eo
              · have o1 : decide ((o : Int) < (eo : Int)) = true := decide_eq_true (by omega)
                have o2 : decide (o < eo) = true := decide_eq_true ho
                have o3 : o < eo := ho
                have HLEAF : Hid (entS (amongP PL g (k + 1)) = (EI ++ [ri], (h, l, x), o, false)) := Lib.hid (by rw [HLM.out, if_pos ht, if_pos ho]; rfl)
                clear ht ho HLM HCP
                have e0 := HY.out.ke.cell 0
                have e1 := HY.out.ke.cell 1
                have e2 := HY.out.ke.cell 2
                have e3 := HY.out.ke.cell 3
                have e4 := HY.out.ke.cell 4
                have e5 := HY.out.ke.cell 5
                have f1 := HY.out.ke.frozen 1
                have f2 := HY.out.ke.frozen 2
                have f3 := HY.out.ke.frozen 3
                have f4 := HY.out.ke.frozen 4
                have f5 := HY.out.ke.frozen 5
                have r0 := KY.out.cell 0
                have r2 := KY.out.cell 2
                have r3 := KY.out.cell 3
                have r4 := KY.out.cell 4
                obtain ⟨q1, q2⟩ := HWX.out _ HY.out.below
                go_wp2_with fail
                clear e0 e1 e2 e3 e4 e5 f1 f2 f3 f4 f5 r0 r2 r3 r4 q1 q2
                have HY7 := Lib.hid (HY.out.time h l x)
                have KY7 := Lib.hid (((KY.out.far (p := ⟨w.heap.size + 1 + 1, 1, none⟩) (by have := HAL.out; exact this.symm) (.int .u64 (h : Int))).far (p := ⟨w.heap.size + 1 + 1, 2, none⟩) (by have := HAL.out; exact this.symm) (.int .u64 (l : Int))).far (p := ⟨w.heap.size + 1 + 1, 3, none⟩) (by have := HAL.out; exact this.symm) (.int .u64 (x : Int)))
                generalize (((Y.setCell ⟨w.heap.size + 1 + 1, 1, none⟩ (.int .u64 (h : Int))).setCell ⟨w.heap.size + 1 + 1, 2, none⟩ (.int .u64 (l : Int))).setCell ⟨w.heap.size + 1 + 1, 3, none⟩ (.int .u64 (x : Int))) = Y7 at HY7 KY7 ⊢
                clear HY KY
                have e0 := HY7.out.ke.cell 0
                have e1 := HY7.out.ke.cell 1
                have e2 := HY7.out.ke.cell 2
                have e3 := HY7.out.ke.cell 3
                have e4 := HY7.out.ke.cell 4
                have e5 := HY7.out.ke.cell 5
                have f1 := HY7.out.ke.frozen 1
                have f2 := HY7.out.ke.frozen 2
                have f3 := HY7.out.ke.frozen 3
                have f4 := HY7.out.ke.frozen 4
                have f5 := HY7.out.ke.frozen 5
                have r0 := KY7.out.cell 0
                have r2 := KY7.out.cell 2
                have r3 := KY7.out.cell 3
                have r4 := KY7.out.cell 4
                obtain ⟨q1, q2⟩ := HWX.out _ HY7.out.below
                go_quiet (fail)
                have HY8 := Lib.hid (HY7.out.bel (below_drewN (Below.refl _ _) nq))
                have KY8 := Lib.hid (KY7.out.drewN nq)
                generalize World.drewN _ _ = Y8 at HY8 KY8 ⊢
                clear HY7 KY7
                clear e0 e1 e2 e3 e4 e5 f1 f2 f3 f4 f5 r0 r2 r3 r4 q1 q2
                have e0 := HY8.out.ke.cell 0
                have e1 := HY8.out.ke.cell 1
                have e2 := HY8.out.ke.cell 2
                have e3 := HY8.out.ke.cell 3
                have e4 := HY8.out.ke.cell 4
                have e5 := HY8.out.ke.cell 5
                have f1 := HY8.out.ke.frozen 1
                have f2 := HY8.out.ke.frozen 2
                have f3 := HY8.out.ke.frozen 3
                have f4 := HY8.out.ke.frozen 4
                have f5 := HY8.out.ke.frozen 5
                have r0 := KY8.out.cell 0
                have r2 := KY8.out.cell 2
                have r3 := KY8.out.cell 3
                have r4 := KY8.out.cell 4
                obtain ⟨q1, q2⟩ := HWX.out _ HY8.out.below
                go_upto_region 10 with fail
                have HY9 := Lib.hid (HY8.out.ord o)
                have KY9 := Lib.hid (KY8.out.far (p := ⟨w.heap.size + 1 + 1, 4, none⟩) (by have := HAL.out; exact this.symm) (.int .u64 (o : Int)))
                generalize Y8.setCell ⟨w.heap.size + 1 + 1, 4, none⟩ (.int .u64 (o : Int)) = Y9 at HY9 KY9 ⊢
                clear HY8 KY8
                clear e0 e1 e2 e3 e4 e5 f1 f2 f3 f4 f5 r0 r2 r3 r4 q1 q2
                have e0 := HY9.out.ke.cell 0
                have e1 := HY9.out.ke.cell 1
                have e2 := HY9.out.ke.cell 2
                have e3 := HY9.out.ke.cell 3
                have e4 := HY9.out.ke.cell 4
                have e5 := HY9.out.ke.cell 5
                have f1 := HY9.out.ke.frozen 1
                have f2 := HY9.out.ke.frozen 2
                have f3 := HY9.out.ke.frozen 3
                have f4 := HY9.out.ke.frozen 4
                have f5 := HY9.out.ke.frozen 5
                have r0 := KY9.out.cell 0
                have r2 := KY9.out.cell 2
                have r3 := KY9.out.cell 3
                have r4 := KY9.out.cell 4
                obtain ⟨q1, q2⟩ := HWX.out _ HY9.out.below
                have HYa := Lib.hid (HY9.out.fresh false)
                have KYa := Lib.hid (KY9.out.far (p := ⟨w.heap.size + 1 + 1, 5, none⟩) (by have := HAL.out; exact this.symm) (.bool false))
                have e0a := HYa.out.ke.cell 0
                have r0a := KYa.out.cell 0
                have hsz := HY9.out.size
                clear HY9 KY9
                go_wp2_with (
                  at_builtin
                  (refine wpList_append_any _ rfl (.tmp 71) (.tmp 74) 40 rfl (w.heap.size + 1 + 1 + 1) 3 i0 (.int .i64 0) 1 8 Try.underlying40 hi0 hz0 hz1 hz2 rfl (by decide) (.slice Am m cm) m (vs IS) rfl (HYa.out.row.alloc _) _ (some ⟨Y9.heap.size, 0, none⟩) 1 1 (vs [ri]) rfl (reads_int1 _ _ ri (by simp)) (vs_ones _) (by simp only [maxLen]; omega) (by omega) (by simp; omega) ?_)
                  intro v9 w9 own9 grow9 _
                  rw [← vs_append] at own9
                  obtain ⟨A9, c9, rfl, _, _⟩ := own_reads own9
                  have HYb := Lib.hid (HYa.out.app _ grow9 own9)
                  have k9 := (HYa.out.ke.alloc (.cells #[.int .i64 ri] 3)).own (HYa.out.row.alloc (.cells #[.int .i64 ri] 3)) grow9 (by omega)
                  have g0 := k9.cell 0
                  have g1 := k9.frozen 0
                  clear own9 grow9 k9)
                go_roundw
                case rel => exact ⟨k + 1, A9, c9, by omega, by go_num, Lib.hid (by rw [HLN2.out, HLEAF.out, HID2.out]; exact HYb.out)⟩
                case measure => simp [intOf] <;> omega
              · have o1 : decide ((o : Int) < (eo : Int)) = false := decide_eq_false (by omega)
                have o2 : decide (o < eo) = false := decide_eq_false ho
                have o3 : ¬ o < eo := ho
                have HLEAF : Hid (entS (amongP PL g (k + 1)) = (EI ++ [ri], (h, l, x), eo, false)) := Lib.hid (by rw [HLM.out, if_pos ht, if_neg ho]; rfl)
                clear ht ho HLM HCP
                have e0 := HY.out.ke.cell 0
                have e1 := HY.out.ke.cell 1
                have e2 := HY.out.ke.cell 2
                have e3 := HY.out.ke.cell 3
                have e4 := HY.out.ke.cell 4
                have e5 := HY.out.ke.cell 5
                have f1 := HY.out.ke.frozen 1
                have f2 := HY.out.ke.frozen 2
                have f3 := HY.out.ke.frozen 3
                have f4 := HY.out.ke.frozen 4
                have f5 := HY.out.ke.frozen 5
                have r0 := KY.out.cell 0
                have r2 := KY.out.cell 2
                have r3 := KY.out.cell 3
                have r4 := KY.out.cell 4
                obtain ⟨q1, q2⟩ := HWX.out _ HY.out.below
                go_wp2_with fail
                clear e0 e1 e2 e3 e4 e5 f1 f2 f3 f4 f5 r0 r2 r3 r4 q1 q2
                have HY7 := Lib.hid (HY.out.time h l x)
                have KY7 := Lib.hid (((KY.out.far (p := ⟨w.heap.size + 1 + 1, 1, none⟩) (by have := HAL.out; exact this.symm) (.int .u64 (h : Int))).far (p := ⟨w.heap.size + 1 + 1, 2, none⟩) (by have := HAL.out; exact this.symm) (.int .u64 (l : Int))).far (p := ⟨w.heap.size + 1 + 1, 3, none⟩) (by have := HAL.out; exact this.symm) (.int .u64 (x : Int)))
                generalize (((Y.setCell ⟨w.heap.size + 1 + 1, 1, none⟩ (.int .u64 (h : Int))).setCell ⟨w.heap.size + 1 + 1, 2, none⟩ (.int .u64 (l : Int))).setCell ⟨w.heap.size + 1 + 1, 3, none⟩ (.int .u64 (x : Int))) = Y7 at HY7 KY7 ⊢
                clear HY KY
                have e0 := HY7.out.ke.cell 0
                have e1 := HY7.out.ke.cell 1
                have e2 := HY7.out.ke.cell 2
                have e3 := HY7.out.ke.cell 3
                have e4 := HY7.out.ke.cell 4
                have e5 := HY7.out.ke.cell 5
                have f1 := HY7.out.ke.frozen 1
                have f2 := HY7.out.ke.frozen 2
                have f3 := HY7.out.ke.frozen 3
                have f4 := HY7.out.ke.frozen 4
                have f5 := HY7.out.ke.frozen 5
                have r0 := KY7.out.cell 0
                have r2 := KY7.out.cell 2
                have r3 := KY7.out.cell 3
                have r4 := KY7.out.cell 4
                obtain ⟨q1, q2⟩ := HWX.out _ HY7.out.below
                go_quiet (fail)
                have HY8 := Lib.hid (HY7.out.bel (below_drewN (Below.refl _ _) nq))
                have KY8 := Lib.hid (KY7.out.drewN nq)
                generalize World.drewN _ _ = Y8 at HY8 KY8 ⊢
                clear HY7 KY7
                clear e0 e1 e2 e3 e4 e5 f1 f2 f3 f4 f5 r0 r2 r3 r4 q1 q2
                have e0 := HY8.out.ke.cell 0
                have e1 := HY8.out.ke.cell 1
                have e2 := HY8.out.ke.cell 2
                have e3 := HY8.out.ke.cell 3
                have e4 := HY8.out.ke.cell 4
                have e5 := HY8.out.ke.cell 5
                have f1 := HY8.out.ke.frozen 1
                have f2 := HY8.out.ke.frozen 2
                have f3 := HY8.out.ke.frozen 3
                have f4 := HY8.out.ke.frozen 4
                have f5 := HY8.out.ke.frozen 5
                have r0 := KY8.out.cell 0
                have r2 := KY8.out.cell 2
                have r3 := KY8.out.cell 3
                have r4 := KY8.out.cell 4
                obtain ⟨q1, q2⟩ := HWX.out _ HY8.out.below
                have HYa := Lib.hid (HY8.out.fresh false)
                have KYa := Lib.hid (KY8.out.far (p := ⟨w.heap.size + 1 + 1, 5, none⟩) (by have := HAL.out; exact this.symm) (.bool false))
                have e0a := HYa.out.ke.cell 0
                have r0a := KYa.out.cell 0
                have hsz := HY8.out.size
                clear HY8 KY8
                go_wp2_with (
                  at_builtin
                  (refine wpList_append_any _ rfl (.tmp 71) (.tmp 74) 40 rfl (w.heap.size + 1 + 1 + 1) 3 i0 (.int .i64 0) 1 8 Try.underlying40 hi0 hz0 hz1 hz2 rfl (by decide) (.slice Am m cm) m (vs IS) rfl (HYa.out.row.alloc _) _ (some ⟨Y8.heap.size, 0, none⟩) 1 1 (vs [ri]) rfl (reads_int1 _ _ ri (by simp)) (vs_ones _) (by simp only [maxLen]; omega) (by omega) (by simp; omega) ?_)
                  intro v9 w9 own9 grow9 _
                  rw [← vs_append] at own9
                  obtain ⟨A9, c9, rfl, _, _⟩ := own_reads own9
                  have HYb := Lib.hid (HYa.out.app _ grow9 own9)
                  have k9 := (HYa.out.ke.alloc (.cells #[.int .i64 ri] 3)).own (HYa.out.row.alloc (.cells #[.int .i64 ri] 3)) grow9 (by omega)
                  have g0 := k9.cell 0
                  have g1 := k9.frozen 0
                  clear own9 grow9 k9)
                go_roundw
                case rel => exact ⟨k + 1, A9, c9, by omega, by go_num, Lib.hid (by rw [HLN2.out, HLEAF.out, HID2.out]; exact HYb.out)⟩
                case measure => simp [intOf] <;> omega
            · have t1 : decide ((0 : Int) < cv) = false := decide_eq_false (fun h => ht (HCP.out.1 h))
              by_cases ho : o < eo
              · have o1 : decide ((o : Int) < (eo : Int)) = true := decide_eq_true (by omega)
                have o2 : decide (o < eo) = true := decide_eq_true ho
                have o3 : o < eo := ho
                have HLEAF : Hid (entS (amongP PL g (k + 1)) = (EI ++ [ri], (eh, el, ex), o, false)) := Lib.hid (by rw [HLM.out, if_neg ht, if_pos ho]; rfl)
                clear ht ho HLM HCP
                have e0 := HY.out.ke.cell 0
                have e1 := HY.out.ke.cell 1
                have e2 := HY.out.ke.cell 2
                have e3 := HY.out.ke.cell 3
                have e4 := HY.out.ke.cell 4
                have e5 := HY.out.ke.cell 5
                have f1 := HY.out.ke.frozen 1
                have f2 := HY.out.ke.frozen 2
                have f3 := HY.out.ke.frozen 3
                have f4 := HY.out.ke.frozen 4
                have f5 := HY.out.ke.frozen 5
                have r0 := KY.out.cell 0
                have r2 := KY.out.cell 2
                have r3 := KY.out.cell 3
                have r4 := KY.out.cell 4
                obtain ⟨q1, q2⟩ := HWX.out _ HY.out.below
                go_wp2_with fail
                clear e0 e1 e2 e3 e4 e5 f1 f2 f3 f4 f5 r0 r2 r3 r4 q1 q2
                have e0 := HY.out.ke.cell 0
                have e1 := HY.out.ke.cell 1
                have e2 := HY.out.ke.cell 2
                have e3 := HY.out.ke.cell 3
                have e4 := HY.out.ke.cell 4
                have e5 := HY.out.ke.cell 5
                have f1 := HY.out.ke.frozen 1
                have f2 := HY.out.ke.frozen 2
                have f3 := HY.out.ke.frozen 3
                have f4 := HY.out.ke.frozen 4
                have f5 := HY.out.ke.frozen 5
                have r0 := KY.out.cell 0
                have r2 := KY.out.cell 2
                have r3 := KY.out.cell 3
                have r4 := KY.out.cell 4
                obtain ⟨q1, q2⟩ := HWX.out _ HY.out.below
                go_quiet (fail)
                have HY8 := Lib.hid (HY.out.bel (below_drewN (Below.refl _ _) nq))
                have KY8 := Lib.hid (KY.out.drewN nq)
                generalize World.drewN _ _ = Y8 at HY8 KY8 ⊢
                clear HY KY
                clear e0 e1 e2 e3 e4 e5 f1 f2 f3 f4 f5 r0 r2 r3 r4 q1 q2
                have e0 := HY8.out.ke.cell 0
                have e1 := HY8.out.ke.cell 1
                have e2 := HY8.out.ke.cell 2
                have e3 := HY8.out.ke.cell 3
                have e4 := HY8.out.ke.cell 4
                have e5 := HY8.out.ke.cell 5
                have f1 := HY8.out.ke.frozen 1
                have f2 := HY8.out.ke.frozen 2
                have f3 := HY8.out.ke.frozen 3
                have f4 := HY8.out.ke.frozen 4
                have f5 := HY8.out.ke.frozen 5
                have r0 := KY8.out.cell 0
                have r2 := KY8.out.cell 2
                have r3 := KY8.out.cell 3
                have r4 := KY8.out.cell 4
                obtain ⟨q1, q2⟩ := HWX.out _ HY8.out.below
                go_upto_region 10 with fail
                have HY9 := Lib.hid (HY8.out.ord o)
                have KY9 := Lib.hid (KY8.out.far (p := ⟨w.heap.size + 1 + 1, 4, none⟩) (by have := HAL.out; exact this.symm) (.int .u64 (o : Int)))
                generalize Y8.setCell ⟨w.heap.size + 1 + 1, 4, none⟩ (.int .u64 (o : Int)) = Y9 at HY9 KY9 ⊢
                clear HY8 KY8
                clear e0 e1 e2 e3 e4 e5 f1 f2 f3 f4 f5 r0 r2 r3 r4 q1 q2
                have e0 := HY9.out.ke.cell 0
                have e1 := HY9.out.ke.cell 1
                have e2 := HY9.out.ke.cell 2
                have e3 := HY9.out.ke.cell 3
                have e4 := HY9.out.ke.cell 4
                have e5 := HY9.out.ke.cell 5
                have f1 := HY9.out.ke.frozen 1
                have f2 := HY9.out.ke.frozen 2
                have f3 := HY9.out.ke.frozen 3
                have f4 := HY9.out.ke.frozen 4
                have f5 := HY9.out.ke.frozen 5
                have r0 := KY9.out.cell 0
                have r2 := KY9.out.cell 2
                have r3 := KY9.out.cell 3
                have r4 := KY9.out.cell 4
                obtain ⟨q1, q2⟩ := HWX.out _ HY9.out.below
                have HYa := Lib.hid (HY9.out.fresh false)
                have KYa := Lib.hid (KY9.out.far (p := ⟨w.heap.size + 1 + 1, 5, none⟩) (by have := HAL.out; exact this.symm) (.bool false))
                have e0a := HYa.out.ke.cell 0
                have r0a := KYa.out.cell 0
                have hsz := HY9.out.size
                clear HY9 KY9
                go_wp2_with (
                  at_builtin
                  (refine wpList_append_any _ rfl (.tmp 71) (.tmp 74) 40 rfl (w.heap.size + 1 + 1 + 1) 3 i0 (.int .i64 0) 1 8 Try.underlying40 hi0 hz0 hz1 hz2 rfl (by decide) (.slice Am m cm) m (vs IS) rfl (HYa.out.row.alloc _) _ (some ⟨Y9.heap.size, 0, none⟩) 1 1 (vs [ri]) rfl (reads_int1 _ _ ri (by simp)) (vs_ones _) (by simp only [maxLen]; omega) (by omega) (by simp; omega) ?_)
                  intro v9 w9 own9 grow9 _
                  rw [← vs_append] at own9
                  obtain ⟨A9, c9, rfl, _, _⟩ := own_reads own9
                  have HYb := Lib.hid (HYa.out.app _ grow9 own9)
                  have k9 := (HYa.out.ke.alloc (.cells #[.int .i64 ri] 3)).own (HYa.out.row.alloc (.cells #[.int .i64 ri] 3)) grow9 (by omega)
                  have g0 := k9.cell 0
                  have g1 := k9.frozen 0
                  clear own9 grow9 k9)
                go_roundw
                case rel => exact ⟨k + 1, A9, c9, by omega, by go_num, Lib.hid (by rw [HLN2.out, HLEAF.out, HID2.out]; exact HYb.out)⟩
                case measure => simp [intOf] <;> omega
              · have o1 : decide ((o : Int) < (eo : Int)) = false := decide_eq_false (by omega)
                have o2 : decide (o < eo) = false := decide_eq_false ho
                have o3 : ¬ o < eo := ho
                have HLEAF : Hid (entS (amongP PL g (k + 1)) = (EI ++ [ri], (eh, el, ex), eo, false)) := Lib.hid (by rw [HLM.out, if_neg ht, if_neg ho]; rfl)
                clear ht ho HLM HCP
                have e0 := HY.out.ke.cell 0
                have e1 := HY.out.ke.cell 1
                have e2 := HY.out.ke.cell 2
                have e3 := HY.out.ke.cell 3
                have e4 := HY.out.ke.cell 4
                have e5 := HY.out.ke.cell 5
                have f1 := HY.out.ke.frozen 1
                have f2 := HY.out.ke.frozen 2
                have f3 := HY.out.ke.frozen 3
                have f4 := HY.out.ke.frozen 4
                have f5 := HY.out.ke.frozen 5
                have r0 := KY.out.cell 0
                have r2 := KY.out.cell 2
                have r3 := KY.out.cell 3
                have r4 := KY.out.cell 4
                obtain ⟨q1, q2⟩ := HWX.out _ HY.out.below
                go_wp2_with fail
                clear e0 e1 e2 e3 e4 e5 f1 f2 f3 f4 f5 r0 r2 r3 r4 q1 q2
                have e0 := HY.out.ke.cell 0
                have e1 := HY.out.ke.cell 1
                have e2 := HY.out.ke.cell 2
                have e3 := HY.out.ke.cell 3
                have e4 := HY.out.ke.cell 4
                have e5 := HY.out.ke.cell 5
                have f1 := HY.out.ke.frozen 1
                have f2 := HY.out.ke.frozen 2
                have f3 := HY.out.ke.frozen 3
                have f4 := HY.out.ke.frozen 4
                have f5 := HY.out.ke.frozen 5
                have r0 := KY.out.cell 0
                have r2 := KY.out.cell 2
                have r3 := KY.out.cell 3
                have r4 := KY.out.cell 4
                obtain ⟨q1, q2⟩ := HWX.out _ HY.out.below
                go_quiet (fail)
                have HY8 := Lib.hid (HY.out.bel (below_drewN (Below.refl _ _) nq))
                have KY8 := Lib.hid (KY.out.drewN nq)
                generalize World.drewN _ _ = Y8 at HY8 KY8 ⊢
                clear HY KY
                clear e0 e1 e2 e3 e4 e5 f1 f2 f3 f4 f5 r0 r2 r3 r4 q1 q2
                have e0 := HY8.out.ke.cell 0
                have e1 := HY8.out.ke.cell 1
                have e2 := HY8.out.ke.cell 2
                have e3 := HY8.out.ke.cell 3
                have e4 := HY8.out.ke.cell 4
                have e5 := HY8.out.ke.cell 5
                have f1 := HY8.out.ke.frozen 1
                have f2 := HY8.out.ke.frozen 2
                have f3 := HY8.out.ke.frozen 3
                have f4 := HY8.out.ke.frozen 4
                have f5 := HY8.out.ke.frozen 5
                have r0 := KY8.out.cell 0
                have r2 := KY8.out.cell 2
                have r3 := KY8.out.cell 3
                have r4 := KY8.out.cell 4
                obtain ⟨q1, q2⟩ := HWX.out _ HY8.out.below
                have HYa := Lib.hid (HY8.out.fresh false)
                have KYa := Lib.hid (KY8.out.far (p := ⟨w.heap.size + 1 + 1, 5, none⟩) (by have := HAL.out; exact this.symm) (.bool false))
                have e0a := HYa.out.ke.cell 0
                have r0a := KYa.out.cell 0
                have hsz := HY8.out.size
                clear HY8 KY8
                go_wp2_with (
                  at_builtin
                  (refine wpList_append_any _ rfl (.tmp 71) (.tmp 74) 40 rfl (w.heap.size + 1 + 1 + 1) 3 i0 (.int .i64 0) 1 8 Try.underlying40 hi0 hz0 hz1 hz2 rfl (by decide) (.slice Am m cm) m (vs IS) rfl (HYa.out.row.alloc _) _ (some ⟨Y8.heap.size, 0, none⟩) 1 1 (vs [ri]) rfl (reads_int1 _ _ ri (by simp)) (vs_ones _) (by simp only [maxLen]; omega) (by omega) (by simp; omega) ?_)
                  intro v9 w9 own9 grow9 _
                  rw [← vs_append] at own9
                  obtain ⟨A9, c9, rfl, _, _⟩ := own_reads own9
                  have HYb := Lib.hid (HYa.out.app _ grow9 own9)
                  have k9 := (HYa.out.ke.alloc (.cells #[.int .i64 ri] 3)).own (HYa.out.row.alloc (.cells #[.int .i64 ri] 3)) grow9 (by omega)
                  have g0 := k9.cell 0
                  have g1 := k9.frozen 0
                  clear own9 grow9 k9)
                go_roundw
                case rel => exact ⟨k + 1, A9, c9, by omega, by go_num, Lib.hid (by rw [HLN2.out, HLEAF.out, HID2.out]; exact HYb.out)⟩
                case measure => simp [intOf] <;> omega
    · obtain rfl : k = n' := by omega
      have e1 : amongP PL g k = PE := by rw [← HPE.out, HPL.out]
      rw [e1] at HE
      clear e1
      obtain ⟨m, hm⟩ : ∃ m, PE.length = m := ⟨_, rfl⟩
      obtain ⟨ES, hES⟩ : ∃ E, entS PE = E := ⟨_, rfl⟩
      rw [hm, hES] at HE
      obtain ⟨EI, ⟨eh, el, ex⟩, eo, ef⟩ := ES
      have HE : Hid (EJ w wr A k c Am m cm eh el ex eo ef (idsP PE)) := HE
      obtain ⟨b, hb⟩ : ∃ b, decide (0 < m) = b := ⟨_, rfl⟩
      have hbI : decide ((0 : Int) < (m : Int)) = b := by rw [← hb]; simp
      have HM := Lib.hid hm
      have HES := Lib.hid hES
      clear hm hES
      go_upto_region 13 with fail
      have HV := HE.out.bel (Below.refl wr.heap.size wr).drew
      have HPF := Lib.hid (And.intro (HV.kz.row (cs' := #[.slice Am m cm, .int .u64 (eh : Int), .int .u64 (el : Int), .int .u64 (ex : Int), .int .u64 (eo : Int), .bool ef])) (below_row (g' := w.heap.size + 1) (cs' := #[.slice Am m cm, .int .u64 (eh : Int), .int .u64 (el : Int), .int .u64 (ex : Int), .int .u64 (eo : Int), .bool ef]) HV.below (by omega)))
      have HOW := Lib.hid (grown_own HV.row (g := w.heap.size + 1) (w' := wr.drew.setRow (w.heap.size + 1) #[.slice Am m cm, .int .u64 (eh : Int), .int .u64 (el : Int), .int .u64 (ex : Int), .int .u64 (eo : Int), .bool ef]) ⟨rfl, rfl, rfl, by simp, fun k hk hne => setRow_other _ _ _ _ (fun e => hne (by rw [e]))⟩ (by omega))
      refine wp_region_held_drew (S := fun u => Blk u (w.heap.size + 1 + 1) 47 #[.slice Am m cm, .int .u64 (eh : Int), .int .u64 (el : Int), .int .u64 (ex : Int), .int .u64 (eo : Int), .bool ef]) (by kernel_rfl) HV.ke (fun hS => ?_)
      refine wpAnyH_take (i := 0) (v := .agg #[.slice Am m cm, .int .u64 (eh : Int), .int .u64 (el : Int), .int .u64 (ex : Int), .int .u64 (eo : Int), .bool ef]) rfl (by kernel_rfl) (by kernel_rfl) (by kernel_rfl) (fun _ _ _ h => h) (Or.inl ⟨by kernel_rfl, fun u hSw => (by have c0 := hSw.cell 0; have c1 := hSw.cell 1; have c2 := hSw.cell 2; have c3 := hSw.cell 3; have c4 := hSw.cell 4; have c5 := hSw.cell 5; go_simp)⟩) hS ?_
      change wpAnyH _ _ _ _ _ _ _ (Act.put _ (some 78) _) _
      simp only [Act.put]
      try simp only [List.setIfInBounds_toArray, List.set_cons_zero, List.set_cons_succ]
      refine wpAnyH_take (i := 1) (v := (.pointer (some ⟨w.heap.size + 1 + 1, 0, none⟩))) rfl (by kernel_rfl) (by kernel_rfl) (by kernel_rfl) (fun _ _ _ h => h) (Or.inl ⟨by kernel_rfl, fun u hSw => (by go_simp)⟩) hS ?_
      change wpAnyH _ _ _ _ _ _ _ (Act.put _ (some 79) _) _
      simp only [Act.put]
      try simp only [List.setIfInBounds_toArray, List.set_cons_zero, List.set_cons_succ]
      refine wpAnyH_take (i := 2) (v := .slice Am m cm) rfl (by kernel_rfl) (by kernel_rfl) (by kernel_rfl) (fun _ _ _ h => h) (Or.inl ⟨by kernel_rfl, fun u hSw => (by have c0 := hSw.cell 0; have c1 := hSw.cell 1; have c2 := hSw.cell 2; have c3 := hSw.cell 3; have c4 := hSw.cell 4; have c5 := hSw.cell 5; go_simp)⟩) hS ?_
      change wpAnyH _ _ _ _ _ _ _ (Act.put _ (some 80) _) _
      simp only [Act.put]
      try simp only [List.setIfInBounds_toArray, List.set_cons_zero, List.set_cons_succ]
      refine wpAnyH_take (i := 3) (v := .int .i64 (m : Int)) rfl (by kernel_rfl) (by kernel_rfl) (by kernel_rfl) (fun _ _ _ h => h) (Or.inl ⟨by kernel_rfl, fun u hSw => (by go_simp)⟩) hS ?_
      change wpAnyH _ _ _ _ _ _ _ (Act.put _ (some 81) _) _
      simp only [Act.put]
      try simp only [List.setIfInBounds_toArray, List.set_cons_zero, List.set_cons_succ]
      refine wpAnyH_take (i := 4) (v := .bool b) rfl (by kernel_rfl) (by kernel_rfl) (by kernel_rfl) (fun _ _ _ h => h) (Or.inl ⟨by kernel_rfl, fun u hSw => (by go_simp)⟩) hS ?_
      change wpAnyH _ _ _ _ _ _ _ (Act.put _ (some 82) _) _
      simp only [Act.put]
      try simp only [List.setIfInBounds_toArray, List.set_cons_zero, List.set_cons_succ]
      refine wpAnyH_ready (rs := [5]) (by kernel_rfl) (by simp) ?_
      refine AllReadyH.cons rfl (fun K hK => ?_) AllReadyH.nil
      have HF6 := Lib.hid (HV.ke.other (g' := w.heap.size + 1) (cs' := #[.slice Am m cm, .int .u64 (eh : Int), .int .u64 (el : Int), .int .u64 (ex : Int), .int .u64 (eo : Int), .bool ef]) (by omega))
      refine step_store_row rfl 47 (.tmp 6) (.tmp 78) rfl (w.heap.size + 1) #[.slice Am m cm, .int .u64 (eh : Int), .int .u64 (el : Int), .int .u64 (ex : Int), .int .u64 (eo : Int), .bool ef] rfl rfl _ _ HV.kz (by kernel_rfl) rfl (by simp [Value.oneCell']) ?_
      refine hK.out _ _ HF6.out (fun hS => ?_)
      clear hK K HV
      change wpAnyH _ _ _ _ _ _ _ (Act.put _ none _) _
      simp only [Act.put]
      refine wpAnyH_take (i := 6) (v := .bool b) rfl (by kernel_rfl) (by kernel_rfl) (by kernel_rfl) (fun _ _ _ h => h) (Or.inl ⟨by kernel_rfl, fun u hSw => (by go_simp)⟩) hS ?_
      change wpAnyH _ _ _ _ _ _ _ (Act.put _ (some 7) _) _
      simp only [Act.put]
      try simp only [List.setIfInBounds_toArray, List.set_cons_zero, List.set_cons_succ]
      refine wpAnyH_done (by kernel_rfl) ?_ _
      clear hS
      go_wp2_with fail
      try rw [Exit.noGoto_ret]
      exact bodyPost_ret (v := .tuple #[.agg (agE Am m cm eh el ex eo ef), .bool b]) (results_cell_row_tmp Try.results47 _ _ _ _ _ _ rfl HPF.out.1 Try.underlying47 rfl (by kernel_rfl)) rfl ⟨Am, cm, by rw [HM.out, HES.out, hb], by rw [HM.out]; exact own_down HOW.out (by omega), HPF.out.2⟩

end Go.Proofs.Ytngbamoffjlodaa
