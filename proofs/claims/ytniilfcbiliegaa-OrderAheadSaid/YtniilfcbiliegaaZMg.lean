/-
  The landed Entities' closure, which takes some that are left and lays their entity. No statement is proved here.
-/
import Derived.Test.YtniilfcbiliegaaZMf
import Derived.RegionTactic
import Derived.Deep.RegionHeld3
namespace Go.Proofs.Ytniilfcbiliegaa
open Go.RowKit Go.Maps

theorem ent_info : (Try.prog.info? 47).map (fun i => (i.zero, i.size, i.bytes)) = some (some (.agg #[.slice none 0 0, .int .u64 0, .int .u64 0, .int .u64 0, .int .u64 0, .bool false]), 6, 64) := by kernel_rfl
theorem ev_ones (l : List En) : ∀ u ∈ flat ev l, u.oneCell' = true := flat_all ev (fun a u hu => by
  simp only [ev, List.mem_cons, List.not_mem_nil, or_false] at hu
  rcases hu with rfl | rfl | rfl | rfl | rfl | rfl <;> rfl) l
/-- the slice of an entity's members -/
def slE (e : En) : Value := .slice e.1.1 e.1.2.1 e.1.2.2.1
/-- entities that are being laid, and what is left -/
structure ST (w : World) (B0 B bL bl b m : Nat) (L : List Pt) (A : Option Addr) (n c : Nat) (E : List En) : Prop where
  bnd : (B0 ≤ bL ∧ B0 ≤ bl ∧ B0 ≤ b) ∧ (bL < B ∧ bl < B ∧ b < B) ∧ B ≤ w.heap.size
  left : Blk w bL 75 #[.map (some b)]
  box : Blk w bl 34 #[.slice A n c]
  map_ : PM w b m L
  row : w.ownsRow B 47 6 (.slice A n c) n (flat ev E)
  mem : ∀ e ∈ E, w.ownsRow B 3 1 (slE e) e.1.2.1 (vs e.1.2.2.2)
  ne : ∀ e ∈ E, ∀ j j', (slE e).ownBlock = some j → (Value.slice A n c).ownBlock = some j' → j ≠ j'
section
variable {w w' : World} {B0 B bL bl b m : Nat} {L L' : List Pt} {A : Option Addr} {n c : Nat} {E : List En}
theorem ST.grown (h : ST w B0 B bL bl b m L A n c E) (hg : w.grownBy w' (some b)) (hM : PM w' b m L') : ST w' B0 B bL bl b m L' A n c E :=
  ⟨⟨h.bnd.1, h.bnd.2.1, Nat.le_trans h.bnd.2.2 hg.size⟩, h.left.grown hg (fun e => by injection e with e; exact h.map_.not_cells h.left e), h.box.grown hg (fun e => by injection e with e; exact h.map_.not_cells h.box e), hM,
    grown_own h.row hg h.bnd.2.1.2.2, fun e he => grown_own (h.mem e he) hg h.bnd.2.1.2.2, h.ne⟩
theorem ST.below (h : ST w B0 B bL bl b m L A n c E) (hb : Below w.heap.size w w') : ST w' B0 B bL bl b m L A n c E :=
  ⟨⟨h.bnd.1, h.bnd.2.1, Nat.le_trans h.bnd.2.2 hb.size⟩, h.left.below hb h.left.lt, h.box.below hb h.box.lt, h.map_.below hb, own_below h.row hb, fun e he => own_below (h.mem e he) hb, h.ne⟩
theorem ST.boxes (h : ST w B0 B bL bl b m L A n c E) : bL ≠ bl := by
  intro e
  have h1 := h.left
  have h2 := h.box
  subst e
  unfold Blk at h1 h2
  rw [h1] at h2
  injection h2 with h2
  injection h2 with _ h2
  cases h2
theorem ST.len (h : ST w B0 B bL bl b m L A n c E) : E.length = n := by
  have h1 := h.row.1
  rw [length_flat ev length_ev] at h1
  omega
theorem ST.bnd_le (h : ST w B0 B bL bl b m L A n c E) : B0 ≤ w.heap.size := by have := h.bnd; omega
/-- one entity more -/
theorem ST.more (h : ST w B0 B bL bl b m L A n c E) {o : Obj} {A2 : Option Addr} {c2 : Nat} {e : En} (hm : w.ownsRow B 3 1 (slE e) e.1.2.1 (vs e.1.2.2.2)) (hne : ∀ j j', (slE e).ownBlock = some j → (Value.slice A n c).ownBlock = some j' → j ≠ j')
    (hg : (w.alloc o).grownBy w' (Value.slice A n c).ownBlock) (ho : w'.ownsRow B 47 6 (.slice A2 (n + 1) c2) (n + 1) (flat ev (E ++ [e]))) (hw : (Value.slice A2 (n + 1) c2).ownBlock = (Value.slice A n c).ownBlock ∨ (Value.slice A2 (n + 1) c2).ownBlock = some (w.alloc o).heap.size) :
    ST (w'.setCell ⟨bl, 0, none⟩ (.slice A2 (n + 1) c2)) B0 B bL bl b m L A2 (n + 1) c2 (E ++ [e]) ∧ (∀ a, Below B0 a w → Below B0 a (w'.setCell ⟨bl, 0, none⟩ (.slice A2 (n + 1) c2))) := by
  have hrow := h.row.alloc o
  have hbd := h.bnd
  refine ⟨⟨⟨hbd.1, hbd.2.1, ?_⟩, ?_, ?_, ?_, ?_, ?_, ?_⟩, ?_⟩
  · have := hg.size
    simp at this ⊢
    omega
  · exact ((h.left.alloc o).own hrow hg hbd.2.1.1).far (p := ⟨bl, 0, none⟩) h.boxes _
  · have := ((h.box.alloc o).own hrow hg hbd.2.1.2.1).set_ 0 (.slice A2 (n + 1) c2)
    simpa using this
  · refine PM.setCell ((h.map_.alloc o).kept hg fun he => ?_) (fun he => ?_) _
    · have := (h.row.lt b he.symm).1; omega
    · exact h.map_.not_cells h.box he.symm
  · exact own_set ho (g := bl) (by omega) 0 _
  · intro x hx
    rw [List.mem_append, List.mem_singleton] at hx
    refine own_set ?_ (g := bl) (by omega) 0 _
    rcases hx with hx | rfl
    · exact own_other ((h.mem x hx).alloc o) hg (h.ne x hx)
    · exact own_other (hm.alloc o) hg hne
  · intro x hx
    rw [List.mem_append, List.mem_singleton] at hx
    rcases hx with hx | rfl
    · exact ne_other ((h.mem x hx).alloc o) (h.ne x hx) hw
    · exact ne_other (hm.alloc o) hne hw
  · intro a ha
    have hz : B0 ≤ w.heap.size := by have := hbd; omega
    exact ((ha.alloc hz o).grown hg (by simp; omega) (fun k hk => by have := (h.row.lt k hk).1; omega)).setCell (p := ⟨bl, 0, none⟩) hbd.1.2.1 _
end
theorem mkP_some {ps : List Pt} (h : 0 < ps.length) : mkP ps = [joinP ps] := by
  unfold mkP
  rw [if_neg (fun e => by rw [e] at h; simp at h)]

set_option maxRecDepth 100000 in
set_option maxHeartbeats 16000000 in
theorem add_any (B0 B bL bl b m : Nat) (L : List Pt) (A : Option Addr) (n c : Nat) (E : List En) (A' : Option Addr) (n' c' : Nat) (is : List Int) (w : World) (hS : ST w B0 B bL bl b m L A n c E) (hI : IR w A' n' is) (hN : is.Nodup) (hb : ∀ x ∈ is, 0 ≤ x ∧ x ≤ 4611686018427387904)
    (hr : allB (timesP (takeP L is)) = true) (hs : Small (timesP (takeP L is))) (hn : n ≤ 1000) (hn' : n' ≤ 100) :
    Calls Try.prog 37 #[.slice A' n' c', .pointer (some ⟨bL, 0, none⟩), .pointer (some ⟨bl, 0, none⟩)] w fun e w' => e = .returned (.tuple #[]) ∧ ∃ A2 n2 c2 E2, ST w' B0 B bL bl b m (L.filter fun p => decide (p.1 ∉ is)) A2 n2 c2 E2 ∧
      E2.map et = E.map et ++ mkP (takeP L is) ∧ n2 ≤ n + 1 ∧ Below B0 w w' := by
  obtain ⟨i0, hi0, hz0, hz1, hz2⟩ := info_parts9 ent_info
  have HT := Lib.hid (take_any b m L A' n' c' is w hS.map_ hI hN hb)
  have HLT : Hid ((takeP L is).length ≤ 100) := Lib.hid (Nat.le_trans (List.length_filterMap_le _ _) (by have := hI.len; omega))
  have k0 := hS.left.cell 0
  have HS := Lib.hid hS
  have HR := Lib.hid (And.intro hr hs)
  clear hI hN hb hr hs hS
  go_enter Try.func37, Try.ntmps37
  go_wp2_with fail
  refine HT.out.mono ?_
  rintro e w1 ⟨A1, c1, n1, rfl, hn1, own1, M1, g1⟩
  have S1 := HS.out.grown g1 M1
  have hbl : Below B0 w w1 := by
    have hbd := HS.out.bnd
    exact (Below.refl B0 w).grown g1 (by omega) (fun k hk => by injection hk with hk; omega)
  clear k0 M1 g1
  by_cases h1 : n1 = 0
  · subst h1
    have HS1 := Lib.hid S1
    have HB1 := Lib.hid hbl
    have HE : Hid (mkP (takeP L is) = []) := Lib.hid (by unfold mkP; rw [if_pos (List.eq_nil_of_length_eq_zero hn1.symm)])
    clear S1 hbl own1 hn1
    go_wp2
    go_end0
    exact ⟨rfl, A, n, c, E, HS1.out, by rw [HE.out, List.append_nil], by omega, HB1.out⟩
  · have j1 : (0 : Int) < (n1 : Int) := by omega
    have j2 : decide ((0 : Int) < (n1 : Int)) = true := by simpa using j1
    obtain ⟨ps, hps⟩ : ∃ ps, takeP L is = ps := ⟨_, rfl⟩
    rw [hps] at HR HLT hn1 own1
    have HPR : Hid (PR w1 A1 n1 ps) := Lib.hid ⟨Reads.of_own own1, by rw [hn1]; exact HLT.out⟩
    obtain ⟨t1, t2, t3, ht⟩ : ∃ a b d, tmaxP ps = (a, b, d) := ⟨_, _, _, rfl⟩
    obtain ⟨o, ho⟩ : ∃ o, ordP ps = o := ⟨_, rfl⟩
    obtain ⟨f, hf⟩ : ∃ f, freshP ps = f := ⟨_, rfl⟩
    have HJP : Hid ((idsP ps, (t1, t2, t3), o, f) = joinP ps) := Lib.hid (by unfold joinP; rw [ht, ho, hf])
    have hJ := fun (u : World) (h : Below w1.heap.size w1 u) => joined_any A1 n1 c1 ps u (HPR.out.below h) (by omega) HR.out.1 HR.out.2
    simp only [ht, ho, hf, agE] at hJ
    have HJ := Lib.hid hJ
    clear hJ ht ho hf
    have HE : Hid (mkP (takeP L is) = [joinP ps]) := Lib.hid (by rw [hps]; exact mkP_some (by omega))
    have HS1 := Lib.hid S1
    have HB1 := Lib.hid hbl
    clear S1 hbl own1 hn1 hps
    go_upto_region 2 with fail
    refine wp_region_held_drew (S := fun _ => True) (by kernel_rfl) trivial (fun hS => ?_)
    have SV : ST w1.drew B0 B bL bl b m (L.filter fun p => decide (p.1 ∉ is)) A n c E := HS1.out.below (Below.refl _ _).drew
    have GV : Below w1.heap.size w1 w1.drew := (Below.refl _ _).drew
    have HBV : Hid (Below B0 w w1.drew) := Lib.hid HB1.out.drew
    generalize w1.drew = V at SV GV HBV ⊢
    refine wpAnyH_take (i := 1) (v := .slice A1 n1 c1) rfl (by kernel_rfl) (by kernel_rfl) (by kernel_rfl) (fun _ _ _ h => h) (Or.inl ⟨by kernel_rfl, fun u hSw => (by go_simp)⟩) hS ?_
    change wpAnyH _ _ _ _ _ _ _ (Act.put _ (some 12) _) _
    simp only [Act.put]
    refine wpAnyH_ready (rs := [0, 2]) (by kernel_rfl) (by simp) ?_
    refine AllReadyH.cons rfl (fun K hK => ?_) (AllReadyH.cons rfl (fun K hK => ?_) (AllReadyH.nil))
    · skip
      have k0 := SV.box.cell 0
      go_simp
      refine hK.out _ _ trivial (fun hS => ?_)
      clear hK K k0
      try simp only [Act.put]
      refine wpAnyH_ready (rs := [2]) (by kernel_rfl) (by simp) ?_
      refine AllReadyH.cons rfl (fun K hK => ?_) (AllReadyH.nil)
      go_simp
      refine (HJ.out _ GV).mono ?_
      rintro e2 w2 ⟨Am, cm, rfl, ow2, h9⟩
      have S2 := SV.below h9
      have G2 := GV.trans (h9.mono GV.size)
      have B2 := HBV.out.trans (h9.mono SV.bnd_le)
      have hne : ∀ j j', (Value.slice Am n1 cm).ownBlock = some j → (Value.slice A n c).ownBlock = some j' → j ≠ j' := fun j j' hj hj' => by
        have := (ow2.lt j hj).1
        have := (SV.row.lt j' hj').2
        omega
      have ow2 := own_down ow2 SV.bnd.2.2
      refine hK.out _ _ trivial (fun hS => ?_)
      clear hK K h9
      try simp only [Act.put]
      refine wpAnyH_ready (rs := [3]) (by kernel_rfl) (by simp) ?_
      refine AllReadyH.cons rfl (fun K hK => ?_) (AllReadyH.nil)
      go_simp
      refine hK.out _ _ trivial (fun hS => ?_)
      clear hK K
      try simp only [Act.put]
      refine wpAnyH_ready (rs := [4]) (by kernel_rfl) (by simp) ?_
      refine AllReadyH.cons rfl (fun K hK => ?_) (AllReadyH.nil)
      refine step_append_any _ rfl (.tmp 11) (.tmp 14) 34 rfl B 47 i0 (.agg #[.slice none 0 0, .int .u64 0, .int .u64 0, .int .u64 0, .int .u64 0, .bool false]) 6 64 Try.underlying34 hi0 hz0 hz1 hz2 rfl (by decide) (.slice A n c) n (flat ev E) rfl (S2.row.alloc (.cells #[.slice Am n1 cm, .int .u64 (t1 : Int), .int .u64 (t2 : Int), .int .u64 (t3 : Int), .int .u64 (o : Int), .bool f] 47)) _ (some ⟨w2.heap.size, 0, none⟩) 1 1 (flat ev [((Am, n1, cm, idsP ps), (t1, t2, t3), o, f)]) rfl (reads_new _ _ _ rfl rfl) (ev_ones _) (by simp only [maxLen]; omega) (by omega) (by have := S2.bnd.2.2; simp; omega) ?_
      intro v3 w3 own3 grow3 ne3
      rw [← flat_append] at own3
      obtain ⟨A3, c3, rfl, _, _⟩ := own_reads own3
      have S3 := S2.more (o := (.cells #[.slice Am n1 cm, .int .u64 (t1 : Int), .int .u64 (t2 : Int), .int .u64 (t3 : Int), .int .u64 (o : Int), .bool f] 47)) (e := ((Am, n1, cm, idsP ps), (t1, t2, t3), o, f)) ow2 hne grow3 own3 ne3
      have hbx := (S2.box.alloc (.cells #[.slice Am n1 cm, .int .u64 (t1 : Int), .int .u64 (t2 : Int), .int .u64 (t3 : Int), .int .u64 (o : Int), .bool f] 47)).own (S2.row.alloc (.cells #[.slice Am n1 cm, .int .u64 (t1 : Int), .int .u64 (t2 : Int), .int .u64 (t3 : Int), .int .u64 (o : Int), .bool f] 47)) grow3 S2.bnd.2.1.2.1
      have k1 := hbx.cell 0
      have f1 := hbx.frozen 0
      have HR3 := Lib.hid (And.intro S3.1 (S3.2 _ B2))
      clear own3 grow3 ne3 S3 hbx S2 G2 B2 hne ow2
      refine hK.out _ _ trivial (fun hS => ?_)
      clear hK K
      try simp only [Act.put]
      refine wpAnyH_ready (rs := [5]) (by kernel_rfl) (by simp) ?_
      refine AllReadyH.cons rfl (fun K hK => ?_) (AllReadyH.nil)
      go_simp
      refine hK.out _ _ trivial (fun hS => ?_)
      clear hK K k1 f1
      try simp only [Act.put]
      refine wpAnyH_done (by kernel_rfl) ?_ _
      clear hS
      go_end0
      exact ⟨rfl, A3, n + 1, c3, E ++ [((Am, n1, cm, idsP ps), (t1, t2, t3), o, f)], HR3.out.1, by rw [List.map_append, HE.out, ← HJP.out]; rfl, by omega, HR3.out.2⟩
    · skip
      go_simp
      refine (HJ.out _ GV).mono ?_
      rintro e2 w2 ⟨Am, cm, rfl, ow2, h9⟩
      have S2 := SV.below h9
      have G2 := GV.trans (h9.mono GV.size)
      have B2 := HBV.out.trans (h9.mono SV.bnd_le)
      have hne : ∀ j j', (Value.slice Am n1 cm).ownBlock = some j → (Value.slice A n c).ownBlock = some j' → j ≠ j' := fun j j' hj hj' => by
        have := (ow2.lt j hj).1
        have := (SV.row.lt j' hj').2
        omega
      have ow2 := own_down ow2 SV.bnd.2.2
      refine hK.out _ _ trivial (fun hS => ?_)
      clear hK K h9
      try simp only [Act.put]
      refine wpAnyH_ready (rs := [0, 3]) (by kernel_rfl) (by simp) ?_
      refine AllReadyH.cons rfl (fun K hK => ?_) (AllReadyH.cons rfl (fun K hK => ?_) (AllReadyH.nil))
      · skip
        have k0 := S2.box.cell 0
        go_simp
        refine hK.out _ _ trivial (fun hS => ?_)
        clear hK K k0
        try simp only [Act.put]
        refine wpAnyH_ready (rs := [3]) (by kernel_rfl) (by simp) ?_
        refine AllReadyH.cons rfl (fun K hK => ?_) (AllReadyH.nil)
        go_simp
        refine hK.out _ _ trivial (fun hS => ?_)
        clear hK K
        try simp only [Act.put]
        refine wpAnyH_ready (rs := [4]) (by kernel_rfl) (by simp) ?_
        refine AllReadyH.cons rfl (fun K hK => ?_) (AllReadyH.nil)
        refine step_append_any _ rfl (.tmp 11) (.tmp 14) 34 rfl B 47 i0 (.agg #[.slice none 0 0, .int .u64 0, .int .u64 0, .int .u64 0, .int .u64 0, .bool false]) 6 64 Try.underlying34 hi0 hz0 hz1 hz2 rfl (by decide) (.slice A n c) n (flat ev E) rfl (S2.row.alloc (.cells #[.slice Am n1 cm, .int .u64 (t1 : Int), .int .u64 (t2 : Int), .int .u64 (t3 : Int), .int .u64 (o : Int), .bool f] 47)) _ (some ⟨w2.heap.size, 0, none⟩) 1 1 (flat ev [((Am, n1, cm, idsP ps), (t1, t2, t3), o, f)]) rfl (reads_new _ _ _ rfl rfl) (ev_ones _) (by simp only [maxLen]; omega) (by omega) (by have := S2.bnd.2.2; simp; omega) ?_
        intro v3 w3 own3 grow3 ne3
        rw [← flat_append] at own3
        obtain ⟨A3, c3, rfl, _, _⟩ := own_reads own3
        have S3 := S2.more (o := (.cells #[.slice Am n1 cm, .int .u64 (t1 : Int), .int .u64 (t2 : Int), .int .u64 (t3 : Int), .int .u64 (o : Int), .bool f] 47)) (e := ((Am, n1, cm, idsP ps), (t1, t2, t3), o, f)) ow2 hne grow3 own3 ne3
        have hbx := (S2.box.alloc (.cells #[.slice Am n1 cm, .int .u64 (t1 : Int), .int .u64 (t2 : Int), .int .u64 (t3 : Int), .int .u64 (o : Int), .bool f] 47)).own (S2.row.alloc (.cells #[.slice Am n1 cm, .int .u64 (t1 : Int), .int .u64 (t2 : Int), .int .u64 (t3 : Int), .int .u64 (o : Int), .bool f] 47)) grow3 S2.bnd.2.1.2.1
        have k1 := hbx.cell 0
        have f1 := hbx.frozen 0
        have HR3 := Lib.hid (And.intro S3.1 (S3.2 _ B2))
        clear own3 grow3 ne3 S3 hbx S2 G2 B2 hne ow2
        refine hK.out _ _ trivial (fun hS => ?_)
        clear hK K
        try simp only [Act.put]
        refine wpAnyH_ready (rs := [5]) (by kernel_rfl) (by simp) ?_
        refine AllReadyH.cons rfl (fun K hK => ?_) (AllReadyH.nil)
        go_simp
        refine hK.out _ _ trivial (fun hS => ?_)
        clear hK K k1 f1
        try simp only [Act.put]
        refine wpAnyH_done (by kernel_rfl) ?_ _
        clear hS
        go_end0
        exact ⟨rfl, A3, n + 1, c3, E ++ [((Am, n1, cm, idsP ps), (t1, t2, t3), o, f)], HR3.out.1, by rw [List.map_append, HE.out, ← HJP.out]; rfl, by omega, HR3.out.2⟩
      · skip
        go_simp
        have k0 := (S2.box.alloc (.cells #[.slice Am n1 cm, .int .u64 (t1 : Int), .int .u64 (t2 : Int), .int .u64 (t3 : Int), .int .u64 (o : Int), .bool f] 47)).cell 0
        refine hK.out _ _ trivial (fun hS => ?_)
        clear hK K
        try simp only [Act.put]
        refine wpAnyH_ready (rs := [0]) (by kernel_rfl) (by simp) ?_
        refine AllReadyH.cons rfl (fun K hK => ?_) (AllReadyH.nil)
        go_simp
        refine hK.out _ _ trivial (fun hS => ?_)
        clear hK K k0
        try simp only [Act.put]
        refine wpAnyH_ready (rs := [4]) (by kernel_rfl) (by simp) ?_
        refine AllReadyH.cons rfl (fun K hK => ?_) (AllReadyH.nil)
        refine step_append_any _ rfl (.tmp 11) (.tmp 14) 34 rfl B 47 i0 (.agg #[.slice none 0 0, .int .u64 0, .int .u64 0, .int .u64 0, .int .u64 0, .bool false]) 6 64 Try.underlying34 hi0 hz0 hz1 hz2 rfl (by decide) (.slice A n c) n (flat ev E) rfl (S2.row.alloc (.cells #[.slice Am n1 cm, .int .u64 (t1 : Int), .int .u64 (t2 : Int), .int .u64 (t3 : Int), .int .u64 (o : Int), .bool f] 47)) _ (some ⟨w2.heap.size, 0, none⟩) 1 1 (flat ev [((Am, n1, cm, idsP ps), (t1, t2, t3), o, f)]) rfl (reads_new _ _ _ rfl rfl) (ev_ones _) (by simp only [maxLen]; omega) (by omega) (by have := S2.bnd.2.2; simp; omega) ?_
        intro v3 w3 own3 grow3 ne3
        rw [← flat_append] at own3
        obtain ⟨A3, c3, rfl, _, _⟩ := own_reads own3
        have S3 := S2.more (o := (.cells #[.slice Am n1 cm, .int .u64 (t1 : Int), .int .u64 (t2 : Int), .int .u64 (t3 : Int), .int .u64 (o : Int), .bool f] 47)) (e := ((Am, n1, cm, idsP ps), (t1, t2, t3), o, f)) ow2 hne grow3 own3 ne3
        have hbx := (S2.box.alloc (.cells #[.slice Am n1 cm, .int .u64 (t1 : Int), .int .u64 (t2 : Int), .int .u64 (t3 : Int), .int .u64 (o : Int), .bool f] 47)).own (S2.row.alloc (.cells #[.slice Am n1 cm, .int .u64 (t1 : Int), .int .u64 (t2 : Int), .int .u64 (t3 : Int), .int .u64 (o : Int), .bool f] 47)) grow3 S2.bnd.2.1.2.1
        have k1 := hbx.cell 0
        have f1 := hbx.frozen 0
        have HR3 := Lib.hid (And.intro S3.1 (S3.2 _ B2))
        clear own3 grow3 ne3 S3 hbx S2 G2 B2 hne ow2
        refine hK.out _ _ trivial (fun hS => ?_)
        clear hK K
        try simp only [Act.put]
        refine wpAnyH_ready (rs := [5]) (by kernel_rfl) (by simp) ?_
        refine AllReadyH.cons rfl (fun K hK => ?_) (AllReadyH.nil)
        go_simp
        refine hK.out _ _ trivial (fun hS => ?_)
        clear hK K k1 f1
        try simp only [Act.put]
        refine wpAnyH_done (by kernel_rfl) ?_ _
        clear hS
        go_end0
        exact ⟨rfl, A3, n + 1, c3, E ++ [((Am, n1, cm, idsP ps), (t1, t2, t3), o, f)], HR3.out.1, by rw [List.map_append, HE.out, ← HJP.out]; rfl, by omega, HR3.out.2⟩

end Go.Proofs.Ytniilfcbiliegaa
