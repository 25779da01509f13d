/-
  GangApart, walked. No statement is proved here.
-/
import Derived.Test.YtglphgfaknofcaaKe
namespace Go.Proofs.Ytglphgfaknofcaa
open Go.RowKit Go.Maps

def opv (o : OpT) : List Value := [.int .i64 o.1, .int .i64 o.2.1, .slice o.2.2.1 o.2.2.2.1 o.2.2.2.2.1]
theorem length_opv (o : OpT) : (opv o).length = 3 := rfl
/-- what is done, as it came in -/
structure OA (w : World) (A : Option Addr) (n : Nat) (l : List OpT) : Prop where
  row : Reads w w.heap.size 3 A n (flat opv l)
  mem : ∀ o ∈ l, Reads w w.heap.size 1 o.2.2.1 o.2.2.2.1 (vs o.2.2.2.2.2) ∧ o.2.2.2.1 ≤ o.2.2.2.2.1
theorem OA.below {w w' : World} {A : Option Addr} {n : Nat} {l : List OpT} (h : OA w A n l) (hb : Below w.heap.size w w') : OA w' A n l :=
  ⟨(h.row.below hb).more hb.size, fun e he => ⟨((h.mem e he).1.below hb).more hb.size, (h.mem e he).2⟩⟩
theorem OA.len {w : World} {A : Option Addr} {n : Nat} {l : List OpT} (h : OA w A n l) : l.length = n := by
  have h1 := h.row.1
  rw [length_flat opv length_opv] at h1
  omega
theorem OA.at_ {w : World} {A : Option Addr} {n : Nat} {l : List OpT} (h : OA w A n l) {k : Nat} {o : OpT} (hx : l[k]? = some o) :
    ∃ ad, A = some ad ∧ ad.block < w.heap.size ∧ w.cell? (ad.add (k * 3)) = some (.int .i64 o.1) ∧ w.cell? ⟨(ad.add (k * 3)).block, (ad.add (k * 3)).off + 1, none⟩ = some (.int .i64 o.2.1) ∧ w.cell? ⟨(ad.add (k * 3)).block, (ad.add (k * 3)).off + 2, none⟩ = some (.slice o.2.2.1 o.2.2.2.1 o.2.2.2.2.1) := by
  obtain ⟨ad, e, hb, hc⟩ := h.row.elem opv length_opv hx (by omega)
  have h0 := hc 0 _ rfl
  have h1 := hc 1 _ rfl
  have h2 := hc 2 _ rfl
  rw [Nat.add_zero] at h0
  rw [add_past ad (k * 3) 0] at h1
  rw [add_past ad (k * 3) 1] at h2
  exact ⟨ad, e, hb, h0, h1, h2⟩
theorem GO.off {w w' : World} {B A n c G} {mb : Nat} (h : GO w B A n c G) (hg : w.grownBy w' (some mb)) (hm : mb < B) : GO w' B A n c G := by
  have hk : ∀ {e s m : Nat} {v : Value} {xs : List Value}, w.ownsRow B e s v m xs → w'.ownsRow B e s v m xs := fun {e s m v xs} h => by
    refine h.kept hg ?_
    cases ho : v.ownBlock with
    | none => exact .inl rfl
    | some j => exact .inr (fun he => by have := (h.lt j ho).1; injection he with he; omega)
  exact ⟨hk h.row, fun g hg => hk (h.mem g hg), h.ne⟩
theorem all_flat {l : List Gm} (h : AllG l) : ((l.map (·.2)).flatten).Nodup := by
  unfold List.Nodup
  rw [List.pairwise_flatten]
  refine ⟨fun is his => ?_, ?_⟩
  · obtain ⟨g, hg, rfl⟩ := List.mem_map.1 his
    exact members_nodup (h.1 g hg).2.2
  · rw [List.pairwise_map]
    exact h.2.imp (fun {a b} (hxy : TwoG a b) x hx y hy e => hxy.2 x hx (by rw [e]; exact hy))
theorem flat_next {ls : List (List Int)} (h : ls.flatten.Nodup) {j : Nat} {is : List Int} (hj : ls[j]? = some is) {i : Nat} {x : Int} (hi : is[i]? = some x) : x ∉ (ls.take j).flatten ++ is.take i := by
  intro hm
  have e : ls.flatten = (ls.take j).flatten ++ is.take i ++ x :: (is.drop (i + 1) ++ (ls.drop (j + 1)).flatten) := by
    have h1 : ls = ls.take j ++ is :: ls.drop (j + 1) := by rw [← drop_cons hj, List.take_append_drop]
    have h2 : is = is.take i ++ x :: is.drop (i + 1) := by rw [← drop_cons hi, List.take_append_drop]
    conv => lhs; rw [h1, List.flatten_append, List.flatten_cons, h2]
    simp
  rw [e, List.nodup_append] at h
  exact h.2.2 x hm x (List.mem_cons_self ..) rfl

/-- gangs in a box, while what is done is done -/
structure GB (w : World) (gb : Nat) (wr : World) : Prop where
  box : ∃ A n c G, Blk wr gb 24 #[.slice A n c] ∧ NW wr A n G ∧ n ≤ c
  bel : Below w.heap.size w wr
  ge : w.heap.size ≤ gb
theorem no_nw {w : World} {B : Nat} {A : Option Addr} {n c : Nat} {G : List Gn} (h : NO w B A n c G) (hr : rightG (gsM G) = true) : NW w A n G := by
  have ha := right_all hr
  have hl := all_len ha
  rw [gsM_len, h.len] at hl
  refine h.nw (by omega) (fun g hg => ?_)
  have := (members_len (ha.1 (gm g) (List.mem_map.2 ⟨g, hg, rfl⟩)).2.2).2
  rw [show (gm g).2 = g.2.2.2.2 from rfl, h.mlen hg] at this
  omega

theorem flat_len : ∀ {ls : List (List Int)} {b : Nat}, (∀ is ∈ ls, is.length ≤ b) → ls.flatten.length ≤ ls.length * b
  | [], _, _ => by simp
  | x :: ls, b, h => by
    rw [List.flatten_cons, List.length_append, List.length_cons, Nat.succ_mul]
    have h1 := h x (List.mem_cons_self ..)
    have h2 := flat_len (ls := ls) (fun is hi => h is (List.mem_cons_of_mem _ hi))
    omega
theorem all_count {l : List Gm} (h : AllG l) (j : Nat) : ((l.map (·.2)).take j).flatten.length ≤ 64 := by
  have h1 := flat_len (ls := (l.map (·.2)).take j) (b := 8) (fun is hi => by
    obtain ⟨g, hg, rfl⟩ := List.mem_map.1 (List.mem_of_mem_take hi)
    exact (members_len (h.1 g hg).2.2).2)
  have h2 := all_len h
  have h3 : ((l.map (·.2)).take j).length ≤ 8 := by rw [List.length_take, List.length_map]; omega
  omega
/-- who was met, while the rows are gone through -/
structure AS (w9 : World) (mb : Nat) (A8 : Option Addr) (n8 c8 : Nat) (G8 : List Gg) (L : List Int) (wr : World) : Prop where
  mp : MB wr mb L
  go : GO wr w9.heap.size A8 n8 c8 G8
  bel : Below mb w9 wr
  lt : mb < w9.heap.size
theorem AS.put {w9 : World} {mb : Nat} {A8 : Option Addr} {n8 c8 : Nat} {G8 : List Gg} {L : List Int} {wr : World} (h : AS w9 mb A8 n8 c8 G8 L wr) {v : Int} (hv : (Lit.int .i64 v).wf = true) (hl : L.length < maxLen) :
    ∃ w', (Instr.mapUpdate 56 (.map (some mb)) (.int .i64 v) (.bool true)).run Try.prog wr = .ok () w' ∧ AS w9 mb A8 n8 c8 G8 (L ++ [v]) w' := by
  obtain ⟨w6, hst, M6, g6⟩ := h.mp.store hv hl
  exact ⟨w6, hst, M6, h.go.off g6 h.lt, h.bel.grown g6 (Nat.le_trans (Nat.le_of_lt h.lt) h.bel.size) (fun j hj => by injection hj with hj; omega), h.lt⟩

set_option maxRecDepth 100000 in
set_option maxHeartbeats 16000000 in
theorem apart_walk (A : Option Addr) (n c : Nat) (l : List OpT) (w : World) (hA : OA w A n l) (hn : n ≤ maxLen) : Calls Try.prog 8 #[.slice A n c] w (Said (.bool true) w) := by
  have hmm := @run_makeMap Try.prog
  have HMM := Lib.hid hmm
  have HW := Lib.hid (wakes_any w)
  have HA := Lib.hid hA
  have hn2 : n ≤ 9223372036854775807 := by unfold maxLen at hn; omega
  clear hA hmm
  go_enter Try.func8, Try.ntmps8
  go_wp2_with fail
  refine HW.out.mono ?_
  rintro e w0 ⟨rfl, h0⟩
  have HGB : Hid (GB w w0.heap.size (w0.alloc (.cells #[.slice none 0 0] 24))) := Lib.hid ⟨⟨none, 0, 0, [], Blk.new _ _ _, ⟨Reads.none_, by omega, fun g hg => (by cases hg)⟩, Nat.le_refl _⟩, h0.alloc h0.size _, h0.size⟩
  clear h0
  go_wp2_with fail
  generalize w0.heap.size = gb at *
  go_loopw [18] (fun iv wr => ∃ k : Nat, k ≤ n ∧ iv = .int .i64 (k : Int) ∧ Hid (GB w gb wr)) (fun iv _ => n - (intOf iv).toNat)
  case atStart => exact ⟨0, by omega, rfl, HGB⟩
  case round =>
    clear HGB
    obtain ⟨k, hk, rfl, HGB⟩ := hrel
    by_cases hlt : k < n
    · by_cases h40 : k = 40
      · have HE := Lib.hid HGB.out.bel
        have q40 : ((k : Int) == 40) = true := by simp; omega
        obtain ⟨⟨K, N, A2, m, c2, ms⟩, hx⟩ := elem_at (l := l) (k := k) (by rw [HA.out.len]; exact hlt)
        obtain ⟨ad, rfl, _, d0, d1, d2⟩ := (HA.out.below HE.out).at_ hx
        have HE2 := Lib.hid (HE.out.alloc HE.out.size (.cells #[.int .i64 K, .int .i64 N, .slice A2 m c2] 30))
        have i1 : (0 : Int) ≤ (k : Int) := by omega
        have i2 : (k : Int) < (n : Int) := by omega
        clear hx h40
        go_wp2_with fail
        go_ret
        exact ⟨rfl, HE2.out⟩
      · obtain ⟨⟨K, N, A2, m, c2, ms⟩, hx⟩ := elem_at (l := l) (k := k) (by rw [HA.out.len]; exact hlt)
        have q40 : ((k : Int) == 40) = false := by simp; omega
        obtain ⟨ad, rfl, _, d0, d1, d2⟩ := (HA.out.below HGB.out.bel).at_ hx
        have hM := (HA.out.below HGB.out.bel).mem _ (List.mem_of_getElem? hx)
        obtain ⟨A5, n5, c5, G5, B5, NW5, hc5⟩ := HGB.out.box
        have i1 : (0 : Int) ≤ (k : Int) := by omega
        have i2 : (k : Int) < (n : Int) := by omega
        have PO := Blk.new wr 30 #[.int .i64 K, .int .i64 N, .slice A2 m c2]
        have DO := (Below.refl wr.heap.size wr).alloc (Nat.le_refl _) (.cells #[.int .i64 K, .int .i64 N, .slice A2 m c2] 30)
        have HRun := Lib.hid (run_any K N A2 m c2 ms A5 n5 c5 G5 (wr.alloc (.cells #[.int .i64 K, .int .i64 N, .slice A2 m c2] 30)) (NW5.below DO) hc5 ((hM.1.below DO).more DO.size) hM.2)
        have x0 := PO.cell 0
        have x1 := PO.cell 1
        have x2 := PO.cell 2
        have BO := B5.alloc (.cells #[.int .i64 K, .int .i64 N, .slice A2 m c2] 30)
        have y0 := BO.cell 0
        have HBO := Lib.hid BO
        have HN5 := Lib.hid (And.intro (NW5.below DO) hc5)
        have HB1 := Lib.hid (HGB.out.bel.alloc HGB.out.bel.size (.cells #[.int .i64 K, .int .i64 N, .slice A2 m c2] 30))
        have hrr := run_right (N := N) (ms := intsL ms) (l := gsM G5) (kind_six K)
        obtain ⟨V, hV⟩ : ∃ V, runV (kindQ K) N (intsL ms) (gsM G5) = V := ⟨_, rfl⟩
        rw [hV] at HRun hrr
        have HRR := Lib.hid hrr
        clear hx hM B5 NW5 hc5 PO DO BO hrr hV
        go_wp2_with fail
        clear d0 d1 d2
        refine HRun.out.mono ?_
        rintro e w7 ⟨A7, n7, c7, G7, rfl, N7, E7, h7⟩
        have HB7 := Lib.hid (HB1.out.trans (h7.mono HB1.out.size))
        by_cases hV0 : V.1 = 0
        · have q1 : (V.1 == 0) = true := by simpa using hV0
          have hR := HRR.out hV0
          rw [← E7] at hR
          have HR := Lib.hid hR
          have HNW7 := Lib.hid (fun (u : World) (hu : Below w7.heap.size w7 u) => (no_nw N7 hR).below hu)
          have HNO7 := Lib.hid (fun (u : World) (hu : Below w7.heap.size w7 u) => N7.below hu)
          have hnc7 : n7 ≤ c7 := N7.nc
          have HL7 := Lib.hid N7.len
          have HAll := Lib.hid (right_all hR)
          have hn7 : n7 ≤ 8 := by have := all_len (right_all hR); rw [gsM_len, N7.len] at this; exact this
          have D8 := (Below.refl w7.heap.size w7).alloc (Nat.le_refl _) (.cells #[.slice A7 n7 c7] 24)
          have D9 := D8.alloc D8.size (.map #[] 0)
          have HD9 := Lib.hid D9
          have BH := (Blk.new w7 24 #[.slice A7 n7 c7]).alloc (.map #[] 0)
          have z0 := BH.cell 0
          have HBH := Lib.hid BH
          have HM0 : Hid (MB ((w7.alloc (.cells #[.slice A7 n7 c7] 24)).alloc (.map #[] 0)) (w7.heap.size + 1) []) := Lib.hid (by have := MB.made (w7.alloc (.cells #[.slice A7 n7 c7] 24)); simpa using this)
          have hlt9 : w7.heap.size + 1 < ((w7.alloc (.cells #[.slice A7 n7 c7] 24)).alloc (.map #[] 0)).heap.size := by simp
          have HRw := Lib.hid (rows_any A7 n7 c7 G7 _ ((no_nw N7 hR).below D9) hnc7)
          have HBG := Lib.hid (((HBO.out.below h7 HBO.out.lt).alloc (.cells #[.slice A7 n7 c7] 24)).alloc (.map #[] 0))
          have HWH : Hid (w.heap.size ≤ w7.heap.size) := Lib.hid HB7.out.size
          have HGl : Hid (gb < w7.heap.size) := Lib.hid (HBO.out.below h7 HBO.out.lt).lt
          have HB9 := Lib.hid (HB7.out.trans (D9.mono HB7.out.size))
          have hmm2 := HMM.out
          clear N7 E7 h7 x0 x1 x2 y0 hV0 hR D8 D9 BH
          go_wp2_with fail
          clear hmm2
          refine HRw.out.mono ?_
          rintro e w10 ⟨A8, n8, c8, G8, rfl, hn8, S8, E8, M8, h10⟩
          have HRL : Hid (gsI G8 = (gsM G7).map (·.2)) := Lib.hid (by rw [E8]; unfold rowsL; rw [if_pos HR.out])
          have hn88 : n8 ≤ 8 := by
            have h1 := S8.len
            have h2 := congrArg List.length HRL.out
            rw [gsI_len, List.length_map, gsM_len, HL7.out] at h2
            omega
          have HM8 : Hid (∀ g ∈ G8, g.2.1 ≤ 17) := Lib.hid (fun g hg => by
            have h1 : g.2.2.2 ∈ gsI G8 := List.mem_map.2 ⟨g, hg, rfl⟩
            rw [HRL.out] at h1
            obtain ⟨g7, hg7, e7⟩ := List.mem_map.1 h1
            have h2 := members_len (HAll.out.1 g7 hg7).2.2
            have h3 := (S8.mem g hg).1
            rw [length_vs] at h3
            rw [e7] at h2
            omega)
          have HAS : Hid (AS ((w7.alloc (.cells #[.slice A7 n7 c7] 24)).alloc (.map #[] 0)) (w7.heap.size + 1) A8 n8 c8 G8 (((gsM G7).map (·.2)).take 0).flatten w10) := Lib.hid ⟨by simpa using HM0.out.below h10 hlt9, S8, h10.mono (Nat.le_of_lt hlt9), hlt9⟩
          have HL8 : Hid (G8.length = n8) := Lib.hid S8.len
          clear S8 E8 M8 h10 z0 HRw
          generalize (w7.alloc (.cells #[.slice A7 n7 c7] 24)).alloc (.map #[] 0) = w9 at *
          generalize w7.heap.size = hb at *
          go_wp2_with fail
          go_loopw [38] (fun jv wr => ∃ j : Nat, j ≤ n8 ∧ jv = .int .i64 (j : Int) ∧ Hid (AS w9 (hb + 1) A8 n8 c8 G8 (((gsM G7).map (·.2)).take j).flatten wr)) (fun jv _ => n8 - (intOf jv).toNat)
          case atStart => exact ⟨0, by omega, rfl, HAS⟩
          case round =>
            clear HAS
            obtain ⟨j, hj, rfl, HS⟩ := hrel
            by_cases hlj : j < n8
            · obtain ⟨⟨A9, m9, c9, is⟩, hg⟩ := elem_at (l := G8) (k := j) (by rw [HL8.out]; exact hlj)
              have W8 := gw_own HS.out.go (by omega) HM8.out
              obtain ⟨ad8, rfl, _, e0⟩ := W8.at_ hg
              have HI := Lib.hid (W8.each _ (List.mem_of_getElem? hg)).1
              have hls : ((gsM G7).map (·.2))[j]? = some is := by rw [← HRL.out]; exact gsI_at hg
              have HLS := Lib.hid hls
              have HG9 := Lib.hid hg
              obtain ⟨g7, hg7, hgi⟩ : ∃ g, (gsM G7)[j]? = some g ∧ g.2 = is := by
                rw [List.getElem?_map] at hls
                exact Option.map_eq_some_iff.1 hls
              have hone := HAll.out.1 g7 (List.mem_of_getElem? hg7)
              rw [OneG, hgi] at hone
              have hml := members_len hone.2.2
              have hlen : is.length = m9 := HI.out.len
              rw [hlen] at hml
              have HRise := Lib.hid (rise_pair (by have := hone.2.2; unfold membersB at this; simp only [Bool.and_eq_true] at this; exact this.2))
              have HTop := Lib.hid (rise_top (a := 0) (by have := hone.2.2; unfold membersB at this; simp only [Bool.and_eq_true] at this; exact this.2))
              have HLen := Lib.hid hlen
              have HNX : Hid ((((gsM G7).map (·.2)).take (j + 1)).flatten = (((gsM G7).map (·.2)).take j).flatten ++ is) := Lib.hid (by rw [List.take_add_one, hls, List.flatten_append]; simp)
              have HT0 : Hid (AS w9 (hb + 1) (some ad8) n8 c8 G8 ((((gsM G7).map (·.2)).take j).flatten ++ is.take 0) wr) := Lib.hid (by rw [List.take_zero, List.append_nil]; exact HS.out)
              have HFN := Lib.hid (all_flat HAll.out)
              have HCount : Hid ((((gsM G7).map (·.2)).take j).flatten.length ≤ 64) := Lib.hid (all_count HAll.out j)
              have p1 : (0 : Int) ≤ (j : Int) := by omega
              have p2 : (j : Int) < (n8 : Int) := by omega
              have p3 : decide ((m9 : Int) < 2) = false := decide_eq_false (by omega)
              have hm9 : m9 ≤ 8 := hml.2
              clear W8 hg hls hg7 hone hml hlen
              obtain ⟨wx, rfl⟩ : ∃ X, X = wr := ⟨_, rfl⟩
              go_wp2_with fail
              go_loopw [47] (fun iv wr => ∃ i : Nat, i ≤ m9 ∧ iv = .int .i64 (i : Int) ∧ Hid (AS w9 (hb + 1) (some ad8) n8 c8 G8 ((((gsM G7).map (·.2)).take j).flatten ++ is.take i) wr)) (fun iv _ => m9 - (intOf iv).toNat)
              case atStart => exact ⟨0, by omega, rfl, HT0⟩
              case round =>
                clear HT0
                obtain ⟨i, hi, rfl, HT⟩ := hrel
                by_cases hli : i < m9
                · obtain ⟨x, hx⟩ := elem_at (l := is) (k := i) (by rw [HLen.out]; exact hli)
                  have W9 := gw_own HT.out.go (by omega) HM8.out
                  have hI9 : IR wr A9 m9 is := by
                    obtain ⟨g9, hg9, hge⟩ : ∃ g, g ∈ G8 ∧ g = (A9, m9, c9, is) := ⟨_, List.mem_of_getElem? HG9.out, rfl⟩
                    have := (W9.each g9 hg9).1
                    rw [hge] at this
                    exact this
                  obtain ⟨ad9, rfl, _, f0⟩ := hI9.at_ hx
                  have hr1 := HRise.out.1 x (List.mem_of_getElem? hx)
                  have hr2 := HTop.out x (List.mem_of_getElem? hx)
                  have hwf : (Lit.int .i64 x).wf = true := WalkArith.wf_i64 (by omega)
                  have hlook := HT.out.mp.look x hwf
                  rw [decide_eq_false (flat_next HFN.out HLS.out hx)] at hlook
                  have HX := Lib.hid (show is.take (i + 1) = is.take i ++ [x] by rw [List.take_add_one, hx]; rfl)
                  obtain ⟨w6, hst, hAS⟩ := HT.out.put hwf (by rw [List.length_append, List.length_take]; have := HCount.out; unfold maxLen; omega)
                  have HAS6 : Hid (AS w9 (hb + 1) (some ad8) n8 c8 G8 ((((gsM G7).map (·.2)).take j).flatten ++ is.take (i + 1)) w6) := Lib.hid (by rw [HX.out, ← List.append_assoc]; exact hAS)
                  have o1 : (0 : Int) ≤ (i : Int) := by omega
                  have o2 : (i : Int) < (m9 : Int) := by omega
                  clear hx W9 hI9 hr1 hr2 hwf hAS
                  go_wp2_with fail
                  go_roundw
                  case rel => exact ⟨i + 1, by omega, by go_num, HAS6⟩
                  case measure => simp [intOf]; omega
                · obtain rfl : i = m9 := by omega
                  have HAS7 : Hid (AS w9 (hb + 1) (some ad8) n8 c8 G8 (((gsM G7).map (·.2)).take (j + 1)).flatten wr) := Lib.hid (by have := HT.out; rw [List.take_of_length_le (l := is) (by rw [HLen.out]; exact Nat.le_refl _)] at this; rw [HNX.out]; exact this)
                  go_wp2_with fail
                  go_roundw
                  case rel => exact ⟨j + 1, by omega, by go_num, HAS7⟩
                  case measure => simp [intOf]; omega
            · obtain rfl : j = n8 := by omega
              have hbw := HD9.out.trans (HS.out.bel.mono (Nat.le_succ hb))
              have hnw := HNW7.out _ hbw
              have bh := HBH.out.below HS.out.bel (Nat.lt_succ_self hb)
              have hgl : gb < hb + 1 := by have := HGl.out; omega
              have bg := HBG.out.below HS.out.bel hgl
              have hbe := HB9.out.trans (HS.out.bel.mono (by have := HWH.out; omega))
              have HBe := Lib.hid hbe
              have HNOr := Lib.hid (HNO7.out _ hbw)
              have HBGr := Lib.hid bg
              have HNWr := Lib.hid hnw
              have HCh := Lib.hid (fun (u : World) (hu : Below wr.heap.size wr u) => gcheck_any A7 n7 c7 G7 u (hnw.below hu) hnc7)
              rw [show chkG (gsM G7) = 0 from if_pos HR.out] at HCh
              have HRw2 := Lib.hid (fun (u : World) (hu : Below wr.heap.size wr u) => rows_any A7 n7 c7 G7 u (hnw.below hu) hnc7)
              have HSc := Lib.hid (fun (u : World) (hu : Below wr.heap.size wr u) => (bh.below hu bh.lt).cell 0)
              have HRows : Hid ((rowsL (gsM G7)).length = n7) := Lib.hid (by unfold rowsL; rw [if_pos HR.out, List.length_map, gsM_len, HL7.out])
              have D0 := (Below.refl wr.heap.size wr).drew
              have k0 := HSc.out _ D0
              clear hbw hnw bh bg hbe hgl
              go_upto_region 24 with fail
              go_region_held3 (fun u => u.cell? ⟨hb, 0, none⟩ = some (.slice A7 n7 c7))
                (first | exact k2 | exact k1 | exact k0)
                (first
                  | (go_at_call 18; go_must (refine (HRw2.out _ D1).mono ?_; rintro e w12 ⟨A9, n9, c9, G9, rfl, _, S9, E9, _, h9⟩; have D2 := D1.trans (h9.mono D1.size); have k2 := HSc.out _ D2; obtain rfl : n7 = n9 := (by have h1 := S9.len; have h2 := congrArg List.length E9; rw [gsI_len, HRows.out] at h2; omega); clear h9 S9 E9))
                  | (go_at_call 16; go_must (refine (HCh.out _ D0).mono ?_; rintro e w11 ⟨rfl, h9⟩; have D1 := D0.trans (h9.mono D0.size); have k1 := HSc.out _ D1; clear h9)))
              all_goals
                have BG9 := HBGr.out.below D2 HBGr.out.lt
                have g0 := BG9.cell 0
                have g1 := BG9.frozen 0
                have hb9 := HBe.out.trans (D2.mono HBe.out.size)
                have HP := Lib.hid (put1 (x := .slice A7 n7 c7) BG9 hb9 HGB.out.ge)
                have HG9 : Hid (GB w gb (w12.setCell ⟨gb, 0, none⟩ (.slice A7 n7 c7))) := Lib.hid ⟨⟨A7, _, c7, G7, HP.out.1, no_nw ((HNOr.out.below D2).set HBO.out.lt 0 _) HR.out, hnc7⟩, HP.out.2, HGB.out.ge⟩
                have kk := HSc.out _ D2
                clear k0 k1 k2 D0 D1 BG9 hb9
                go_wp2_with fail
                go_roundw
                case rel => exact ⟨k + 1, by omega, by go_num, HG9⟩
                case measure => simp [intOf]; omega
        · have q1 : (V.1 == 0) = false := by simpa using hV0
          have HG2 : Hid (GB w gb (w7.alloc (.cells #[.slice A7 n7 c7] 24))) := Lib.hid ⟨⟨A5, n5, c5, G5, (HBO.out.below h7 HBO.out.lt).alloc _, (HN5.out.1.below h7).below ((Below.refl _ _).alloc (Nat.le_refl _) _), HN5.out.2⟩, HB7.out.alloc HB7.out.size _, HGB.out.ge⟩
          clear N7 E7 h7 x0 x1 x2 y0 hV0
          go_wp2_with fail
          go_roundw
          case rel => exact ⟨k + 1, by omega, by go_num, HG2⟩
          case measure => simp [intOf]; omega
    · obtain rfl : k = n := by omega
      have HE := Lib.hid HGB.out.bel
      go_wp2
      go_ret
      exact ⟨rfl, HE.out⟩

end Go.Proofs.Ytglphgfaknofcaa
