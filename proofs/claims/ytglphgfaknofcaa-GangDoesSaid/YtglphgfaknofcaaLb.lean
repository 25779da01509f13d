/-
  A row that the document's calls lay in a variable of their own; the document's Part. No statement is proved here.
-/
import Derived.Test.YtglphgfaknofcaaLa
import Derived.Test.YtglphgfaknofcaaKl
import Derived.Test.YtglphgfaknofcaaKh
namespace Go.Proofs.Ytglphgfaknofcaa
open Go.RowKit Go.Maps

theorem field_gangs (A : Option Addr) (n c : Nat) (u : World) : (Instr.field 24 (.agg #[.slice A n c]) 0).run Try.prog u = .ok (.slice A n c) u := by kernel_rfl
theorem nil_some (ad : Addr) (m c : Nat) (u : World) : (binOp .eql 28 (.slice (some ad) m c) (.slice none 0 0)).run Try.prog u = .ok (.bool false) u := by kernel_rfl
theorem nil_none (u : World) : (binOp .eql 28 (.slice none 0 0) (.slice none 0 0)).run Try.prog u = .ok (.bool true) u := by kernel_rfl
theorem nil_some' (ad : Addr) (m c : Nat) (u : World) : (binOp .neq 28 (.slice (some ad) m c) (.slice none 0 0)).run Try.prog u = .ok (.bool true) u := by kernel_rfl
theorem nil_none' (u : World) : (binOp .neq 28 (.slice none 0 0) (.slice none 0 0)).run Try.prog u = .ok (.bool false) u := by kernel_rfl
/-- no part of the gangs lies in block g -/
structure OffB (g : Nat) (A : Option Addr) (n : Nat) (G : List Gn) : Prop where
  row : ∀ ad, A = some ad → 0 < n → ad.block ≠ g
  mem : ∀ x ∈ G, ∀ ad, x.2.1 = some ad → 0 < x.2.2.1 → ad.block ≠ g
theorem own_farB {w : World} {B g n s : Nat} {e : TypeId} {A : Option Addr} {c m : Nat} {xs : List Value} (h : w.ownsRow B e s (.slice A m c) n xs) (hg : g < B) : ∀ ad, A = some ad → 0 < n → ad.block ≠ g := by
  intro ad hA h0
  have hk : (Value.slice A m c).ownBlock = some ad.block := by
    rcases h.2 with ⟨h1, h2⟩ | ⟨k, cap, cur, h1, h2, _⟩
    · omega
    · injection h1 with e1 e2 e3
      rw [hA] at e1
      injection e1 with e1
      subst e1
      rw [hA]
      rfl
  have := (h.lt _ hk).1
  omega
theorem OffB.far {w : World} {B g n c : Nat} {A : Option Addr} {G : List Gn} (h : NO w B A n c G) (hg : g < B) : OffB g A n G :=
  ⟨own_farB h.row hg, fun x hx => own_farB (h.mem x hx) hg⟩
theorem reads_grown {w w' : World} {k n g : Nat} {A : Option Addr} {xs : List Value} (h : Reads w w.heap.size k A n xs) (hx : ∀ ad, A = some ad → 0 < n → ad.block ≠ g) (hg : w.grownBy w' (some g)) : Reads w' w'.heap.size k A n xs := by
  refine ⟨h.1, fun h0 => ?_⟩
  obtain ⟨ad, e, hb, hc⟩ := h.2 h0
  refine ⟨ad, e, Nat.lt_of_lt_of_le hb hg.size, fun j v hv => hg.cell (hc j v hv) (fun he => ?_)⟩
  rw [block_of_add] at he
  injection he with he
  exact hx ad e h0 he
theorem ir_grown {w w' : World} {n g : Nat} {A : Option Addr} {is : List Int} (h : IR w A n is) (hx : ∀ ad, A = some ad → 0 < n → ad.block ≠ g) (hg : w.grownBy w' (some g)) : IR w' A n is := ⟨reads_grown h.row hx hg, h.small⟩
theorem nw_kept {w w' : World} {n g : Nat} {A : Option Addr} {G : List Gn} (h : NW w A n G) (hx : OffB g A n G) (hg : w.grownBy w' (some g)) : NW w' A n G :=
  ⟨reads_grown h.row hx.row hg, h.small, fun x hm => ⟨ir_grown (h.each x hm).1 (hx.mem x hm) hg, (h.each x hm).2⟩⟩
theorem grownBy_setCell0 (w : World) (g : Nat) (v : Value) : w.grownBy (w.setCell ⟨g, 0, none⟩ v) (some g) := ⟨rfl, rfl, rfl, by simp [World.setCell], fun k _ hne => Below.heap_setCell w _ v k (fun he => hne (by rw [he]))⟩
theorem kept_more {W w w' : World} {g : Nat} {row : Option Nat} (h : W.grownBy w (some g)) (hg : w.grownBy w' row) (hr : ∀ k, row = some k → W.heap.size ≤ k) : W.grownBy w' (some g) :=
  ⟨hg.os.trans h.os, hg.tape.trans h.tape, hg.output.trans h.output, Nat.le_trans h.size hg.size, fun k hk hne => (hg.block k (Nat.lt_of_lt_of_le hk h.size) (fun e => by have := hr k e.symm; omega)).trans (h.block k hk hne)⟩
theorem kept_below {W w w' : World} {g : Nat} (h : W.grownBy w (some g)) (hb : Below w.heap.size w w') : W.grownBy w' (some g) :=
  kept_more (row := none) h ⟨hb.os, hb.tape, hb.output, hb.size, fun i hi _ => hb.block i hi⟩ (fun k e => by cases e)
/-- a row that is laid in the variable of block g; W: where it was begun -/
structure PR (W : World) (g : Nat) (A : Option Addr) (n c : Nat) (G : List Gn) (wr : World) : Prop where
  out : Blk wr g 24 #[.slice A n c]
  row : wr.ownsRow W.heap.size 36 2 (.slice A n c) n (flat gnv G)
  kept : W.grownBy wr (some g)
theorem PR.len {W : World} {g n c : Nat} {A : Option Addr} {G : List Gn} {wr : World} (h : PR W g A n c G wr) : G.length = n := by
  have h1 := h.row.1
  rw [length_flat gnv length_gnv] at h1
  omega
theorem PR.alloc {W : World} {g n c : Nat} {A : Option Addr} {G : List Gn} {wr : World} (h : PR W g A n c G wr) (o : Obj) : PR W g A n c G (wr.alloc o) :=
  ⟨h.out.alloc o, h.row.alloc o, kept_below h.kept ((Below.refl _ _).alloc (Nat.le_refl _) o)⟩
theorem PR.put {W : World} {g n c : Nat} {A : Option Addr} {G : List Gn} {V : World} (h : PR W g A n c G V) (hgW : g < W.heap.size) {w9 : World} {A9 : Option Addr} {n9 c9 : Nat} {G9 : List Gn} (grow : V.grownBy w9 (Value.slice A n c).ownBlock) (own : w9.ownsRow W.heap.size 36 2 (.slice A9 n9 c9) n9 (flat gnv G9)) :
    Blk w9 g 24 #[.slice A n c] ∧ PR W g A9 n9 c9 G9 (w9.setCell ⟨g, 0, none⟩ (.slice A9 n9 c9)) := by
  have hb : ∀ k, (Value.slice A n c).ownBlock = some k → W.heap.size ≤ k := fun k hk => (h.row.lt k hk).1
  have h1 : Blk w9 g 24 #[.slice A n c] := h.out.grown grow (fun e => by have := hb _ e.symm; omega)
  have h2 : W.grownBy w9 (some g) := kept_more h.kept grow hb
  refine ⟨h1, (put1 (x := .slice A9 n9 c9) h1 (Below.refl 0 w9) (Nat.zero_le _)).1, own_set own hgW 0 _, ?_⟩
  exact ⟨h2.os, h2.tape, h2.output, by simpa [World.setCell] using h2.size, fun k hk hne => (Below.heap_setCell w9 _ _ k (fun he => hne (by rw [he]))).trans (h2.block k hk hne)⟩
theorem PR.nw {W : World} {g n c : Nat} {A : Option Addr} {G : List Gn} {wr : World} (h : PR W g A n c G wr) (hn : n ≤ 100) (hm : ∀ x ∈ G, IR wr x.2.1 x.2.2.1 x.2.2.2.2 ∧ x.2.2.1 ≤ 100) : NW wr A n G := ⟨Reads.of_own h.row, hn, hm⟩
/-- gangs that a call answers, and an error -/
def DSaid (V : Int × List Gm) (w : World) (e : Ending) (w' : World) : Prop := ∃ A n c G, e = .returned (.tuple #[.agg #[.slice A n c], .int .i64 V.1]) ∧ NW w' A n G ∧ gsM G = V.2 ∧ n ≤ c ∧ (∀ b, b < w.heap.size → OffB b A n G) ∧ Below w.heap.size w w'
def notV (i : Int) : Gm → Bool := fun g => !(g.1 == i)
def dpartV (l : List Gm) (i : Int) : Int × List Gm := match l.find? (isV i) with
  | none => (4, [])
  | some _ => (0, l.filter (notV i))
theorem filter_step {α : Type} {p : α → Bool} {l : List α} {k : Nat} {x : α} (h : l[k]? = some x) : (l.take (k + 1)).filter p = (l.take k).filter p ++ (if p x = true then [x] else []) := by
  rw [List.take_add_one, h, List.filter_append]
  cases hp : p x <;> simp [hp]
theorem find_gsM (v : Int) : ∀ G : List Gn, (gsM G).find? (isV v) = (G.find? (fun g => g.1 == v)).map gm
  | [] => rfl
  | g :: G => by
    unfold gsM
    rw [List.map_cons, List.find?_cons, List.find?_cons]
    have : isV v (gm g) = (g.1 == v) := rfl
    rw [this]
    cases (g.1 == v)
    · exact find_gsM v G
    · rfl
theorem offb_nil {b : Nat} : OffB b none 0 [] := ⟨fun ad h => (by cases h), fun x h => (by cases h)⟩
theorem nw_nil {w : World} : NW w none 0 [] := ⟨⟨rfl, fun h => absurd h (by omega)⟩, by omega, fun g hg => (by cases hg)⟩
theorem gsM_filter (i : Int) : ∀ G : List Gn, gsM (G.filter fun g => !(g.1 == i)) = (gsM G).filter (notV i)
  | [] => rfl
  | g :: G => by
    have ih := gsM_filter i G
    unfold gsM at ih ⊢
    rw [List.map_cons, List.filter_cons, List.filter_cons]
    have : notV i (gm g) = !(g.1 == i) := rfl
    rw [this]
    cases (!(g.1 == i))
    · exact ih
    · rw [if_pos rfl, if_pos rfl, List.map_cons, ih]

set_option maxRecDepth 100000 in
set_option maxHeartbeats 16000000 in
theorem dpart_any (A : Option Addr) (n c : Nat) (gs : List Gn) (i : Int) (w : World) (hG : NW w A n gs) (hr : ∀ g ∈ gs, membersB g.2.2.2.2 = true) :
    Calls Try.prog 35 #[.agg #[.slice A n c], .int .i64 i] w (DSaid (dpartV (gsM gs) i) w) := by
  obtain ⟨ji, hi1, hy0, hy1, hy2⟩ := info_parts9 gang_info
  obtain ⟨K0, K1, GB⟩ := blks2 w 24 24 #[.slice A n c] #[.slice none 0 0]
  have HG := Lib.hid hG
  have HGe := Lib.hid (fun (u : World) (h : Below w.heap.size w u) => dget_any A n c gs i u (hG.below h))
  have HCo := Lib.hid (fun (u : World) (h : Below w.heap.size w u) => dcopy_any A n c gs u (hG.below h))
  have hw1 : w.heap.size + 1 < ((w.alloc (.cells #[.slice A n c] 24)).alloc (.cells #[.slice none 0 0] 24)).heap.size := K1.lt
  have z0 := K0.cell 0
  cases hf : gs.find? (fun g => g.1 == i) with
  | none =>
    have HV : Hid (dpartV (gsM gs) i = (4, [])) := Lib.hid (by unfold dpartV; rw [find_gsM, hf]; rfl)
    rw [show dgetV gs i = .slice none 0 0 from by unfold dgetV; rw [hf]] at HGe
    clear hG hr hf HG HCo
    go_enter Try.func35, Try.ntmps35
    go_wp2_with fail
    refine (HGe.out _ GB).mono ?_
    rintro e w1 ⟨rfl, h9⟩
    replace K1 := K1.below h9 K1.lt
    replace GB := GB.trans (h9.mono GB.size)
    clear h9 z0 K0
    have d0 := K1.cell 0
    have f0 := K1.frozen 0
    have HP := Lib.hid (put1 (x := .slice none 0 0) K1 GB (by omega))
    clear K1 GB
    have hnil := nil_none
    go_wp2_with fail
    exact bodyPost_ret (v := .tuple #[.agg #[.slice none 0 0], .int .i64 4]) (results_cell_row_tmp Try.results35 _ _ _ _ _ _ rfl HP.out.1 Try.underlying24 rfl (by kernel_rfl)) rfl ⟨none, 0, 0, [], by rw [HV.out], nw_nil, by rw [HV.out]; rfl, Nat.le_refl _, fun _ _ => offb_nil, HP.out.2⟩
  | some g =>
    have hgm := List.mem_of_find?_eq_some hf
    have hm2 := (members_len (hr g hgm)).1
    obtain ⟨gi, Ag, mg, cg, ig⟩ := g
    obtain ⟨adg, rfl⟩ : ∃ ad, Ag = some ad := by
      have hI := (hG.each _ hgm).1
      have hl := hI.len
      dsimp only at hI hl hm2
      obtain ⟨ad, e, _⟩ := hI.row.2 (by omega)
      exact ⟨ad, e⟩
    have HV : Hid (dpartV (gsM gs) i = (0, (gsM gs).filter (notV i))) := Lib.hid (by unfold dpartV; rw [find_gsM, hf]; rfl)
    rw [show dgetV gs i = .slice (some adg) mg cg from by unfold dgetV; rw [hf]] at HGe
    have hfd := fun (A' : Option Addr) (n' c' : Nat) (u : World) => field_gangs A' n' c' u
    have HFD := Lib.hid hfd
    clear hG hr hf hgm hm2 hfd
    go_enter Try.func35, Try.ntmps35
    go_wp2_with fail
    refine (HGe.out _ GB).mono ?_
    rintro e w1 ⟨rfl, h9⟩
    replace K0 := K0.below h9 K0.lt
    replace K1 := K1.below h9 K1.lt
    replace GB := GB.trans (h9.mono GB.size)
    replace hw1 := Nat.lt_of_lt_of_le hw1 h9.size
    clear h9 z0
    have K6 := Blk.new w1 24 #[.slice none 0 0]
    replace K0 := K0.alloc (.cells #[.slice none 0 0] 24)
    replace K1 := K1.alloc (.cells #[.slice none 0 0] 24)
    replace GB := GB.alloc GB.size (.cells #[.slice none 0 0] 24)
    have z0 := K0.cell 0
    have hnil := nil_some
    go_upto_region 4 with fail
    clear hnil
    obtain ⟨g6, hg6⟩ : ∃ g, w1.heap.size = g := ⟨_, rfl⟩
    have hX1 : (w1.alloc (.cells #[.slice none 0 0] 24)).heap.size = g6 + 1 := by rw [← hg6]; simp
    obtain ⟨Y, hY⟩ : ∃ Y, w1.alloc (.cells #[.slice none 0 0] 24) = Y := ⟨_, rfl⟩
    rw [hY] at K0 K1 K6 GB z0 hX1 ⊢
    rw [hg6] at K6 hw1 ⊢
    clear hY hg6
    go_wp2_with fail
    refine (HCo.out _ GB).mono ?_
    rintro e W ⟨Ac, nc, cc, GC, rfl, Oc, Ec, hnc, hmc, h9⟩
    replace K1 := K1.below h9 K1.lt
    replace K6 := K6.below h9 K6.lt
    replace GB := GB.trans (h9.mono GB.size)
    have HOF := Lib.hid (OffB.far Oc (show g6 < Y.heap.size by omega))
    have HNW := Lib.hid (Oc.nw hnc hmc)
    have HRES := Lib.hid ((OffB.far Oc (show w.heap.size + 1 < Y.heap.size by omega)).mem)
    have HFAR : Hid (∀ b, b < w.heap.size → OffB b Ac nc GC) := Lib.hid (fun b hb => OffB.far Oc (by omega))
    have HEC := Lib.hid Ec
    have HLC := Lib.hid Oc.len
    have HGW : Hid (g6 < W.heap.size) := Lib.hid (by have := h9.size; omega)
    have HWB : Hid (w.heap.size + 1 < g6) := Lib.hid hw1
    have nc9 : nc ≤ 100 := hnc
    have HPR0 : Hid (PR W g6 none 0 0 [] W) := Lib.hid ⟨K6, World.ownsRow_nil _ _ _ _, World.grownBy.refl _ _⟩
    have HBASE := Lib.hid (And.intro K1 GB)
    clear h9 K0 K1 K6 GB z0 Oc Ec hnc hmc hw1 hX1 HGe HCo HG
    have hfd := HFD.out
    go_wp2_with fail
    clear hfd HFD
    go_loopw [18] (fun iv wr => ∃ (k : Nat) (A5 : Option Addr) (n5 c5 : Nat) (G5 : List Gn), k ≤ nc ∧ iv = .int .i64 (k : Int) ∧ Hid (PR W g6 A5 n5 c5 G5 wr) ∧ Hid (G5 = (GC.take k).filter fun g => !(g.1 == i))) (fun iv _ => nc - (intOf iv).toNat)
    case atStart => exact ⟨0, none, 0, 0, [], by omega, rfl, HPR0, Lib.hid rfl⟩
    case round =>
      clear HPR0
      obtain ⟨k, A5, n5, c5, G5, hk, rfl, HPR, HE5⟩ := hrel
      have HN5 : Hid (n5 ≤ k) := Lib.hid (by
        have h1 := HPR.out.len
        have h2 := List.length_filter_le (fun g : Gn => !(g.1 == i)) (GC.take k)
        rw [← HE5.out, h1] at h2
        have h3 := List.length_take_le k GC
        omega)
      by_cases hlt : k < nc
      · obtain ⟨⟨id, Am, m, cm, is⟩, hx⟩ := elem_at (l := GC) (k := k) (by rw [HLC.out]; exact hlt)
        obtain ⟨ad, rfl, _, d0, d1⟩ := (nw_kept HNW.out HOF.out HPR.out.kept).at_ hx
        have HST := Lib.hid (filter_step (p := fun g : Gn => !(g.1 == i)) hx)
        have i1 : (0 : Int) ≤ (k : Int) := by omega
        have i2 : (k : Int) < (nc : Int) := by omega
        have l1 : decide ((k : Int) < (nc : Int)) = true := decide_eq_true i2
        have KB := Blk.new wr 36 #[.int .i64 id, .slice Am m cm]
        have HPR1 := Lib.hid (HPR.out.alloc (.cells #[.int .i64 id, .slice Am m cm] 36))
        have x0 := KB.cell 0
        have x1 := KB.cell 1
        have HN6 : Hid (n5 ≤ 100) := Lib.hid (by have := HN5.out; omega)
        by_cases hid : id = i
        · have g1 : (id != i) = false := by simp [hid]
          have HE6 : Hid (G5 = (GC.take (k + 1)).filter fun g => !(g.1 == i)) := Lib.hid (by rw [HST.out, ← HE5.out]; simp [hid])
          clear hid hx HPR HE5 HST
          go_wp2_with fail
          go_roundw
          case rel => exact ⟨k + 1, A5, n5, c5, G5, by omega, by go_num, HPR1, HE6⟩
          case measure => simp [intOf] <;> omega
        · have g1 : (id != i) = true := by simp [hid]
          have HE6 : Hid (G5 ++ [(id, Am, m, cm, is)] = (GC.take (k + 1)).filter fun g => !(g.1 == i)) := Lib.hid (by rw [HST.out, ← HE5.out]; simp [hid])
          clear hid hx HE5 HST HPR
          have y6 := HPR1.out.out.cell 0
          go_upto_region 8 with fail
          obtain ⟨X1, hX1⟩ : ∃ X1, wr.alloc (.cells #[.int .i64 id, .slice Am m cm] 36) = X1 := ⟨_, rfl⟩
          rw [hX1] at HPR1 KB x0 x1 y6 ⊢
          have HPR := HPR1
          clear hX1 HN5 HPR1
          have HN5 := HN6
          clear d0 d1
          go_wp2_with (
            at_builtin
            refine wpList_append_any _ rfl (.tmp 27) (.tmp 29) 22 rfl W.heap.size 36 ji (.agg #[.int .i64 0, .slice none 0 0]) 2 32 Try.underlying22 hi1 hy0 hy1 hy2 rfl (by decide) (.slice A5 n5 c5) n5 (flat gnv G5) rfl (HPR.out.row.alloc _) _ (some ⟨X1.heap.size, 0, none⟩) 1 1 (flat gnv [(id, Am, m, cm, is)]) rfl (reads_new _ _ _ rfl rfl) (gnv_ones _) (by have := HN5.out; simp only [maxLen]; omega) (by have := HN5.out; omega) (Nat.le_trans HPR.out.kept.size (by simp)) ?_
            intro v9 w9 own9 grow9 ne9
            rw [← flat_append] at own9
            obtain ⟨A9, c9, rfl, _, _⟩ := own_reads own9
            have HP := Lib.hid ((HPR.out.alloc _).put HGW.out grow9 own9)
            have k1 := HP.out.1.cell 0
            have f1 := HP.out.1.frozen 0
            clear own9 grow9 ne9)
          clear k1 f1
          have HPR2 := Lib.hid HP.out.2
          clear HP KB x0 x1 y6 HPR
          go_roundw
          case rel => exact ⟨k + 1, A9, n5 + 1, c9, _, by omega, by go_num, HPR2, HE6⟩
          case measure => simp [intOf] <;> omega
      · obtain rfl : nc = k := by omega
        have l1 : decide ((nc : Int) < (nc : Int)) = false := decide_eq_false (by omega)
        have HE : Hid (G5 = GC.filter fun g => !(g.1 == i)) := Lib.hid (by rw [HE5.out, ← HLC.out, List.take_length])
        have y6 := HPR.out.out.cell 0
        have K1 := HBASE.out.1.grown HPR.out.kept (by intro e; injection e with e; have := HWB.out; omega)
        have GB := HBASE.out.2.grown HPR.out.kept HBASE.out.2.size (fun g hg => by cases hg; have := HWB.out; omega)
        have d0 := K1.cell 0
        have f0 := K1.frozen 0
        have HP := Lib.hid (put1 (x := .slice A5 n5 c5) K1 GB (by omega))
        have HNN : Hid (NW (wr.setCell ⟨w.heap.size + 1, 0, none⟩ (.slice A5 n5 c5)) A5 n5 G5) := Lib.hid ⟨Reads.of_own (own_set HPR.out.row (g := w.heap.size + 1) (by have := HWB.out; have := HGW.out; omega) 0 _), by have := HN5.out; omega, fun x hx => by
          rw [HE.out] at hx
          have hx := (List.mem_filter.1 hx).1
          have h1 := (nw_kept HNW.out HOF.out HPR.out.kept).each x hx
          refine ⟨ir_grown (g := w.heap.size + 1) h1.1 (HRES.out x hx) (grownBy_setCell0 wr (w.heap.size + 1) _), h1.2⟩⟩
        have HNC := Lib.hid (own_nc HPR.out.row)
        have HOFF : Hid (∀ b, b < w.heap.size → OffB b A5 n5 G5) := Lib.hid (fun b hb => ⟨own_farB HPR.out.row (by have := HGW.out; have := HWB.out; omega), fun x hx => (HFAR.out b hb).mem x (by rw [HE.out] at hx; exact (List.mem_filter.1 hx).1)⟩)
        clear K1 GB
        go_wp2_with fail
        exact bodyPost_ret (v := .tuple #[.agg #[.slice A5 n5 c5], .int .i64 0]) (results_cell_row_tmp Try.results35 _ _ _ _ _ _ rfl HP.out.1 Try.underlying24 rfl (by kernel_rfl)) rfl ⟨A5, n5, c5, G5, by rw [HV.out], HNN.out, by rw [HV.out, HE.out, gsM_filter, HEC.out], HNC.out, HOFF.out, HP.out.2⟩

end Go.Proofs.Ytglphgfaknofcaa
