/-
  Gangs in memory of their own; the library's Clone of numbers; the landed gang: changed, once for each closure. No statement is proved here.
-/
import Derived.Test.YtkbgpmgnkegipaaDoorGj
import Derived.Test.YtkbgpmgnkegipaaDoorGk
import Derived.Test.YtkbgpmgnkegipaaDoorGh
import Derived.WalkMore
namespace Go.Proofs.YtkbgpmgnkegipaaDoor
open Go.RowKit Go.Maps

/-- gangs in memory of their own, from B on, each row's members apart from all else -/
structure NO (w : World) (B : Nat) (A : Option Addr) (n c : Nat) (G : List Gn) : Prop where
  row : w.ownsRow B 54 2 (.slice A n c) n (flat gnv G)
  mem : ∀ g ∈ G, w.ownsRow B 3 1 (slG g.2) g.2.2.1 (vs g.2.2.2.2)
  ne : ∀ g ∈ G, ∀ j j', (slG g.2).ownBlock = some j → (Value.slice A n c).ownBlock = some j' → j ≠ j'
  apart : G.Pairwise fun x y => ∀ p q, (slG x.2).ownBlock = some p → (slG y.2).ownBlock = some q → p ≠ q
section
variable {w w' : World} {B : Nat} {A : Option Addr} {n c : Nat} {G : List Gn}
theorem NO.below (h : NO w B A n c G) (hb : Below w.heap.size w w') : NO w' B A n c G := ⟨own_below h.row hb, fun e he => own_below (h.mem e he) hb, h.ne, h.apart⟩
theorem NO.set (h : NO w B A n c G) {g : Nat} (hg : g < B) (j : Nat) (v : Value) : NO (w.setCell ⟨g, j, none⟩ v) B A n c G := ⟨own_set h.row hg j v, fun e he => own_set (h.mem e he) hg j v, h.ne, h.apart⟩
theorem NO.down (h : NO w B A n c G) {B' : Nat} (hb : B' ≤ B) : NO w B' A n c G := ⟨own_down h.row hb, fun e he => own_down (h.mem e he) hb, h.ne, h.apart⟩
theorem NO.len (h : NO w B A n c G) : G.length = n := by
  have h1 := h.row.1
  rw [length_flat gnv length_gnv] at h1
  omega
theorem NO.nc (h : NO w B A n c G) : n ≤ c := own_nc h.row
theorem NO.mlen (h : NO w B A n c G) {g : Gn} (hg : g ∈ G) : g.2.2.2.2.length = g.2.2.1 := by
  have h1 := (h.mem g hg).1
  rw [length_vs] at h1
  omega
theorem NO.nw (h : NO w B A n c G) (hn : n ≤ 100) (hm : ∀ g ∈ G, g.2.2.1 ≤ 100) : NW w A n G :=
  ⟨Reads.of_own h.row, hn, fun g hg => ⟨⟨Reads.of_own (h.mem g hg), by have := hm g hg; omega⟩, hm g hg⟩⟩
end
theorem own_nil {w : World} {B n c : Nat} {e : TypeId} {s : Nat} {A : Option Addr} {xs : List Value} (h : w.ownsRow B e s (.slice A n c) n xs) (h0 : A = none) : c = 0 := by
  subst h0
  rcases h.2 with ⟨h3, _⟩ | ⟨g, cap, cur, h2, _⟩
  · injection h3
  · injection h2 with e; cases e
theorem flat_set2 (G : List Gn) (k : Nat) (x : Gn) (y : Gg) (h : G[k]? = some x) : (flat gnv G).set (k * 2 + 1) (.slice y.1 y.2.1 y.2.2.1) = flat gnv (G.set k (x.1, y)) := by
  induction G generalizing k with
  | nil => cases h
  | cons z G ih =>
    cases k with
    | zero =>
      obtain rfl : z = x := by simpa using h
      rfl
    | succ k =>
      rw [flat_cons, List.set_cons_succ, flat_cons, show (k + 1) * 2 + 1 = k * 2 + 1 + 2 by omega, ← ih k (by simpa using h)]
      rfl
theorem gsM_map_drop (gs : List Gn) (k : Nat) : gsM (gs.drop k) = (gsM gs).drop k := by unfold gsM; rw [List.map_drop]

set_option maxRecDepth 100000 in
set_option maxHeartbeats 4000000 in
theorem clone_any (A : Option Addr) (n c : Nat) (is : List Int) (w : World) (hR : IR w A n is) : Calls Tryd.prog 29 #[.slice A n c] w fun e w' =>
    ∃ A' c', e = .returned (.slice A' n c') ∧ w'.ownsRow w.heap.size 3 1 (.slice A' n c') n (vs is) ∧ Below w.heap.size w w' := by
  obtain ⟨i0, hi0, hz0, hz1, hz2⟩ := info_parts9 int_info
  have hn := hR.small
  cases A with
  | none =>
    have h0 : n = 0 := by
      rcases Nat.eq_zero_or_pos n with h | h
      · exact h
      · obtain ⟨_, e, _⟩ := hR.row.2 h; cases e
    subst h0
    have e : is = [] := List.eq_nil_of_length_eq_zero hR.len
    subst e
    have q22 : ∀ W : World, (binOp .eql 27 (.slice none 0 c) (.slice none 0 0)).run Tryd.prog W = .ok (.bool true) W := fun W => Lib.run_eql_slice_nil W _ _ none 0 c 0 0 Tryd.underlying27
    clear hR
    go_enter Tryd.func29, Tryd.ntmps29
    go_wp2
    go_ret
    exact ⟨none, 0, rfl, World.ownsRow_nil _ _ _ _, Below.refl _ _⟩
  | some ad =>
    have HC := Lib.hid (hR.row.alloc (Nat.le_refl _) (.cells #[] 3))
    have HB := Lib.hid ((Below.refl w.heap.size w).alloc (Nat.le_refl _) (.cells #[] 3))
    have hnil : ∀ u : World, (binOp BinOp.eql 27 (.slice (some ad) n c) (.slice none 0 0)).run Tryd.prog u = .ok (.bool false) u := fun W => Lib.run_eql_slice_nil W _ _ (some ad) n c 0 0 Tryd.underlying27
    clear hR
    go_enter Tryd.func29, Tryd.ntmps29
    go_wp2_with (
      at_builtin
      refine wpList_append_any _ rfl (.tmp 5) (.tmp 6) 27 rfl w.heap.size 3 i0 (.int .i64 0) 1 8 Tryd.underlying27 hi0 hz0 hz1 hz2 rfl (by decide) (.slice (some ⟨w.heap.size, 0, none⟩) 0 0) 0 [] rfl (by simpa using World.ownsRow_made w #[] 0 (Nat.le_refl _) (by simp [maxLen]) (by simp)) _ (some ad) n c (vs is) rfl HC.out (vs_ones _) (by simp only [maxLen]; omega) (by omega) (by simp) ?_
      intro v9 w9 own9 grow9 _
      rw [List.nil_append, Nat.zero_add] at own9
      obtain ⟨A9, c9, rfl, _, _⟩ := own_reads own9
      have HO := Lib.hid (And.intro own9 (HB.out.grown grow9 HB.out.size (fun k hk => by simp [Value.ownBlock] at hk; omega)))
      clear own9 grow9)
    go_ret
    exact ⟨A9, c9, rfl, HO.out.1, HO.out.2⟩

/-- rows that are cloned one by one -/
structure CR (w : World) (B : Nat) (A : Option Addr) (n c : Nat) (gs : List Gn) (k : Nat) (G : List Gn) (wr : World) : Prop where
  row : wr.ownsRow B 54 2 (.slice A n c) n (flat gnv (G ++ gs.drop k))
  mem : ∀ g ∈ G, wr.ownsRow B 3 1 (slG g.2) g.2.2.1 (vs g.2.2.2.2)
  ne : ∀ g ∈ G, ∀ j j', (slG g.2).ownBlock = some j → (Value.slice A n c).ownBlock = some j' → j ≠ j'
  apart : G.Pairwise fun x y => ∀ p q, (slG x.2).ownBlock = some p → (slG y.2).ownBlock = some q → p ≠ q
  len : G.length = k
  eq : gsM G = (gsM gs).take k
  bel : Below w.heap.size w wr
  hBw : w.heap.size ≤ B
theorem CR.below {w : World} {B : Nat} {A : Option Addr} {n c : Nat} {gs : List Gn} {k : Nat} {G : List Gn} {wr w' : World} (h : CR w B A n c gs k G wr) (hb : Below wr.heap.size wr w') (_ : B ≤ wr.heap.size) : CR w B A n c gs k G w' :=
  ⟨own_below h.row hb, fun e he => own_below (h.mem e he) hb, h.ne, h.apart, h.len, h.eq, h.bel.trans (hb.mono h.bel.size), h.hBw⟩
/-- the next one's members, in memory of their own, written in -/
theorem CR.next {w : World} {B : Nat} {g n c : Nat} {gs : List Gn} {k : Nat} {G : List Gn} {wr : World} (h : CR w B (some ⟨g, 0, none⟩) n c gs k G wr) {x : Gn} (hx : gs[k]? = some x) (hB : B ≤ wr.heap.size) {W : World} {A' : Option Addr} {c' : Nat}
    (hb : Below wr.heap.size wr W) (hO : W.ownsRow wr.heap.size 3 1 (.slice A' x.2.2.1 c') x.2.2.1 (vs x.2.2.2.2)) (hn : 0 < n) :
    W.cell? ⟨g, k * 2 + 1, none⟩ = some (.slice x.2.1 x.2.2.1 x.2.2.2.1) ∧ W.frozen? ⟨g, k * 2 + 1, none⟩ = false ∧ CR w B (some ⟨g, 0, none⟩) n c gs (k + 1) (G ++ [(x.1, A', x.2.2.1, c', x.2.2.2.2)]) (W.setCell ⟨g, k * 2 + 1, none⟩ (.slice A' x.2.2.1 c')) := by
  have h' := h.below hb hB
  obtain ⟨g', cur, e, hBg, K, hnc, hcm, hsz, ht⟩ := blk_own h'.row hn
  obtain rfl : g = g' := by injection e with e; injection e
  have hgl : g < wr.heap.size := by have := (h.row.lt g rfl).2; exact this
  have hkn : k < n := by
    have h1 := h.row.1
    rw [length_flat gnv length_gnv, List.length_append, List.length_drop, h.len] at h1
    have := (List.getElem?_eq_some_iff.1 hx).1
    omega
  have hgk : (G ++ gs.drop k)[k]? = some x := by
    rw [List.getElem?_append_right (by rw [h.len]; exact Nat.le_refl _), h.len, Nat.sub_self, List.getElem?_drop, Nat.add_zero, hx]
  have hcell : W.cell? ⟨g, k * 2 + 1, none⟩ = some (.slice x.2.1 x.2.2.1 x.2.2.2.1) := by
    have h1 := flat_at gnv length_gnv hgk 1 (by omega)
    rw [← ht, List.getElem?_take_of_lt (by omega)] at h1
    rw [K.cell]
    have e2 : (gnv x)[1]? = some (.slice x.2.1 x.2.2.1 x.2.2.2.1) := rfl
    rw [e2] at h1
    simpa using h1
  have hnew : ∀ j, (Value.slice A' x.2.2.1 c').ownBlock = some j → wr.heap.size ≤ j := fun j hj => (hO.lt j hj).1
  have hsetR : ∀ {e s m : Nat} {v : Value} {xs : List Value}, W.ownsRow B e s v m xs → (∀ j, v.ownBlock = some j → j ≠ g) → (W.setCell ⟨g, k * 2 + 1, none⟩ (.slice A' x.2.2.1 c')).ownsRow B e s v m xs := fun h hne => own_off h hne _ _
  refine ⟨hcell, K.frozen _, ⟨?_, fun z hz => ?_, fun z hz j j' hj hj' => ?_, ?_, by rw [List.length_append, h.len]; rfl, ?_, h'.bel.setCell (p := ⟨g, k * 2 + 1, none⟩) (Nat.le_trans h.hBw hBg) _, h.hBw⟩⟩
  · refine own_blk (K.set_ (k * 2 + 1) (.slice A' x.2.2.1 c')) hBg hcm (by rw [Array.size_setIfInBounds, hsz]) hnc ?_
    rw [Array.toList_setIfInBounds, List.take_set, ht, flat_set2 _ k x (A', x.2.2.1, c', x.2.2.2.2) hgk]
    congr 1
    rw [List.set_append_right _ _ (Nat.le_of_eq h.len), h.len, Nat.sub_self, drop_cons hx, List.set_cons_zero, List.append_assoc]
    rfl
  · rcases List.mem_append.1 hz with hz | hz
    · exact hsetR (h'.mem z hz) (fun j hj => h'.ne z hz j g hj rfl)
    · rw [List.mem_singleton] at hz
      subst hz
      exact own_off (own_down hO hB) (fun j hj => by have := hnew j hj; omega) _ _
  · rcases List.mem_append.1 hz with hz | hz
    · exact h'.ne z hz j j' hj hj'
    · rw [List.mem_singleton] at hz
      subst hz
      have := hnew j hj
      have e3 : g = j' := Option.some.inj hj'
      omega
  · rw [List.pairwise_append]
    refine ⟨h.apart, List.pairwise_singleton _ _, fun y hy z hz p q hp hq => ?_⟩
    rw [List.mem_singleton] at hz
    subst hz
    have h1 := ((h.mem y hy).lt p hp).2
    have h2 := hnew q hq
    omega
  · have : (gsM gs)[k]? = some (gm x) := gsM_at hx
    rw [List.take_add_one, this, ← h.eq]
    unfold gsM
    rw [List.map_append]
    rfl

set_option maxRecDepth 100000 in
set_option maxHeartbeats 8000000 in
theorem chform_any (A : Option Addr) (n c : Nat) (gs : List Gn) (w : World) (hG : NW w A n gs) (p1 p2 : Nat) (R : List Gm)
    (HD : ∀ (u : World) (A' : Option Addr) (c' : Nat) (G : List Gn), NO u (w.heap.size + 1 + 1) A' n c' G → Below w.heap.size w u → w.heap.size + 1 + 1 ≤ u.heap.size → gsM G = gsM gs → Calls Tryd.prog 27 #[.slice A' n c', .pointer (some ⟨p1, 0, none⟩), .pointer (some ⟨p2, 0, none⟩)] u (fun e w' => ∃ A2 n2 c2 G2, e = .returned (.slice A2 n2 c2) ∧ NO w' (w.heap.size + 1 + 1) A2 n2 c2 G2 ∧ gsM G2 = R ∧ Below (w.heap.size + 1 + 1) u w')) :
    Calls Tryd.prog 26 #[.agg #[.slice A n c], .func (.func 27) #[] #[.pointer (some ⟨p1, 0, none⟩), .pointer (some ⟨p2, 0, none⟩)]] w (fun e w' => ∃ A2 n2 c2 G2, e = .returned (.agg #[.slice A2 n2 c2]) ∧ NO w' w.heap.size A2 n2 c2 G2 ∧ gsM G2 = R ∧ Below w.heap.size w w') := by
  obtain ⟨K0, K1, GB⟩ := blks2 w 36 36 #[.slice A n c] #[.slice none 0 0]
  have HCl := Lib.hid (fun (u : World) (h : Below w.heap.size w u) => gclone_any A n c gs u (hG.below h).row (by have := hG.small; omega))
  have HG := Lib.hid hG
  have HL := Lib.hid hG.len
  have n9 : n ≤ 100 := hG.small
  have HDo := Lib.hid HD
  have c0 := K0.cell 0
  have HK1 := Lib.hid K1
  clear hG HD K0 K1
  go_enter Tryd.func26, Tryd.ntmps26
  go_wp2_with fail
  refine (HCl.out _ GB).mono ?_
  rintro e w1 ⟨A1, c1, rfl, O1, h1⟩
  have B1 := GB.trans (h1.mono GB.size)
  have hsz1 : w.heap.size + 1 < w1.heap.size := Nat.lt_of_lt_of_le HK1.out.lt h1.size
  have HKB : Hid (Blk w1 (w.heap.size + 1) 36 #[.slice none 0 0]) := Lib.hid (HK1.out.below h1 HK1.out.lt)
  have HC0 : Hid (CR w (w.heap.size + 1 + 1) A1 n c1 gs 0 [] w1) := Lib.hid ⟨own_down O1 HK1.out.lt, fun g hg => (by cases hg), fun g hg => (by cases hg), List.Pairwise.nil, rfl, rfl, B1, by omega⟩
  have HNE : Hid (∀ j, (Value.slice A1 n c1).ownBlock = some j → w.heap.size + 1 < j) := Lib.hid (fun j hj => by
    have := (O1.lt j hj).1
    have h2 := HK1.out.lt
    omega)
  clear h1 O1 c0 HK1 B1
  go_wp2_with fail
  go_loopw [13] (fun iv wr => ∃ (k : Nat) (G : List Gn), k ≤ n ∧ iv = .int .i64 (k : Int) ∧ Hid (CR w (w.heap.size + 1 + 1) A1 n c1 gs k G wr) ∧ Hid (Blk wr (w.heap.size + 1) 36 #[.slice none 0 0] ∧ w.heap.size + 1 < wr.heap.size)) (fun iv _ => n - (intOf iv).toNat)
  case atStart => exact ⟨0, [], by omega, rfl, HC0, Lib.hid ⟨HKB.out, hsz1⟩⟩
  case round =>
    clear HC0 HKB hsz1
    obtain ⟨k, G, hk, rfl, HC, HKB⟩ := hrel
    by_cases hlt : k < n
    · obtain ⟨⟨id, A2, m, c2, is⟩, hx⟩ := elem_at (l := gs) (k := k) (by rw [HL.out]; exact hlt)
      have hgk : (G ++ gs.drop k)[k]? = some (id, A2, m, c2, is) := by
        rw [List.getElem?_append_right (by rw [HC.out.len]; exact Nat.le_refl _), HC.out.len, Nat.sub_self, List.getElem?_drop, Nat.add_zero, hx]
      obtain ⟨g, c9, e9, _, hgB⟩ : ∃ g c9, Value.slice A1 n c1 = .slice (some ⟨g, 0, none⟩) n c9 ∧ w.heap.size + 1 + 1 ≤ g ∧ g < wr.heap.size := by
        obtain ⟨g, cur, e, h1, K, _⟩ := blk_own HC.out.row (by omega)
        exact ⟨g, c1, by rw [e], h1, K.lt⟩
      injection e9 with e9 _ e10
      subst e9
      subst e10
      have hrd := (Reads.of_own HC.out.row).elem gnv length_gnv hgk (by omega)
      obtain ⟨ad', e', _, hcell⟩ := hrd
      obtain rfl : (⟨g, 0, none⟩ : Addr) = ad' := Option.some.inj e'
      have d0 : wr.cell? ⟨g, k * 2, none⟩ = some (.int .i64 id) := by have := hcell 0 _ rfl; rw [Addr.add_lit] at this; simpa using this
      have d1 : wr.cell? ⟨g, k * 2 + 1, none⟩ = some (.slice A2 m c2) := by have := hcell 1 _ rfl; rw [Addr.add_lit] at this; simpa using this
      have hI := (HG.out.below HC.out.bel).each _ (List.mem_of_getElem? hx)
      obtain ⟨KR, GR⟩ := box1 wr 54 #[.int .i64 id, .slice A2 m c2]
      have HCn := Lib.hid (clone_any A2 m c2 is _ (hI.1.below GR))
      have HX := Lib.hid hx
      have HGR := Lib.hid GR
      have r1 := KR.cell 1
      have i1 : (0 : Int) ≤ (k : Int) := by omega
      have i2 : (k : Int) < (n : Int) := by omega
      clear hx hgk hcell hI KR GR e'
      go_wp2_with fail
      refine HCn.out.mono ?_
      rintro e w4 ⟨A4, c4, rfl, O4, h4⟩
      have hbw := HGR.out.trans (h4.mono HGR.out.size)
      have hnx := HC.out.next HX.out HKB.out.2 hbw (own_down O4 HGR.out.size) (by omega)
      obtain ⟨e1, e2, e3⟩ := hnx
      have e1 : w4.cell? ⟨g, k * 2 + 1, none⟩ = some (.slice A2 m c2) := e1
      have HCN := Lib.hid e3
      have HKB4 := Lib.hid (show Blk w4 (w.heap.size + 1) 36 #[.slice none 0 0] ∧ w.heap.size + 1 < w4.heap.size from ⟨HKB.out.1.below hbw HKB.out.2, Nat.lt_of_lt_of_le HKB.out.2 hbw.size⟩)
      have HKS : Hid (Blk (w4.setCell ⟨g, k * 2 + 1, none⟩ (.slice A4 m c4)) (w.heap.size + 1) 36 #[.slice none 0 0] ∧ w.heap.size + 1 < (w4.setCell ⟨g, k * 2 + 1, none⟩ (.slice A4 m c4)).heap.size) := Lib.hid ⟨HKB4.out.1.far (by have := HNE.out g rfl; simp; omega) _, by simpa using HKB4.out.2⟩
      clear d0 d1 r1 h4 hbw e3 O4
      go_wp2_with fail
      go_roundw
      case rel => exact ⟨k + 1, _, by omega, by go_num, HCN, HKS⟩
      case measure => simp [intOf] <;> omega
    · obtain rfl : k = n := by omega
      have hNO : NO wr (w.heap.size + 1 + 1) A1 k c1 G := ⟨by
        have := HC.out.row
        rwa [show gs.drop k = [] by rw [List.drop_eq_nil_iff, HL.out]; exact Nat.le_refl _, List.append_nil] at this, HC.out.mem, HC.out.ne, HC.out.apart⟩
      have hE : gsM G = gsM gs := by rw [HC.out.eq, List.take_of_length_le (by rw [gsM_len, HL.out]; exact Nat.le_refl _)]
      have HDC := Lib.hid (HDo.out wr A1 c1 G hNO HC.out.bel HKB.out.2 hE)
      have HB := Lib.hid HC.out.bel
      clear hNO hE HC
      go_wp2_with fail
      refine HDC.out.mono ?_
      rintro e w5 ⟨A5, n5, c5, G5, rfl, N5, E5, h5⟩
      have K5 := HKB.out.1.below h5 (by omega)
      have q0 := K5.cell 0
      have q1 := K5.frozen 0
      have B5 := HB.out.trans (h5.mono (by omega))
      have HP := Lib.hid (put1 (x := .slice A5 n5 c5) K5 B5 (by omega))
      have HN := Lib.hid (And.intro ((N5.set (g := w.heap.size + 1) (by omega) 0 (.slice A5 n5 c5)).down (show w.heap.size ≤ w.heap.size + 1 + 1 by omega)) E5)
      clear h5 K5 B5 N5 E5 HDC
      go_wp2_with fail
      exact bodyPost_ret (v := .agg #[.slice A5 n5 c5]) (results_cell_row Tryd.results26 _ _ _ _ _ _ rfl HP.out.1 Tryd.underlying36 rfl (by kernel_rfl)) rfl ⟨_, _, _, _, rfl, HN.out.1, HN.out.2, HP.out.2⟩






end Go.Proofs.YtkbgpmgnkegipaaDoor
