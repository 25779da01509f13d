/-
  The contract of the document's Entities. No statement is proved here.
-/
import Derived.Test.YtngbamoffjlodaaZUc
import Derived.Test.YtngbamoffjlodaaZUb
import Derived.Test.YtngbamoffjlodaaZSb
import Derived.Test.YtngbamoffjlodaaZQa
namespace Go.Proofs.Ytngbamoffjlodaa
open Go.RowKit Go.Maps
set_option linter.unusedSimpArgs false

def singL (L : List Pt) (gs : List (List Int)) : List (List Int) := L.flatMap fun p => if aloneB gs p.1 = true then [[p.1]] else []
theorem sing_yes {L : List Pt} {gs : List (List Int)} {k : Nat} {p : Pt} (hp : L[k]? = some p) (h : aloneB gs p.1 = true) : singL (L.take (k + 1)) gs = singL (L.take k) gs ++ [[p.1]] := by
  unfold singL
  rw [List.take_add_one, hp, List.flatMap_append]
  simp [h]
theorem sing_no {L : List Pt} {gs : List (List Int)} {k : Nat} {p : Pt} (hp : L[k]? = some p) (h : aloneB gs p.1 = false) : singL (L.take (k + 1)) gs = singL (L.take k) gs := by
  unfold singL
  rw [List.take_add_one, hp, List.flatMap_append]
  simp [h]
theorem sing_rise {L : List Pt} {gs : List (List Int)} : ∀ g ∈ singL L gs, g.Pairwise (· < ·) := by
  intro g hg
  unfold singL at hg
  rw [List.mem_flatMap] at hg
  obtain ⟨p, _, hp⟩ := hg
  split at hp
  · rw [List.mem_singleton] at hp
    subst hp
    simp
  · cases hp
theorem alone_step {gs : List Gg} {k : Nat} {g : Gg} (hg : gs[k]? = some g) (i : Int) : aloneB (gsI (gs.take (k + 1))) i = (aloneB (gsI (gs.take k)) i && !decide (i ∈ g.2.2.2)) := by
  unfold aloneB gsI
  rw [List.take_add_one, hg, List.map_append, List.any_append]
  simp
theorem own_one (w : World) (x : Int) : (w.alloc (.cells #[.int .i64 x] 3)).ownsRow 0 3 1 (.slice (some ⟨w.heap.size, 0, none⟩) 1 1) 1 (vs [x]) :=
  ⟨by simp [vs], .inr ⟨w.heap.size, 1, #[.int .i64 x], rfl, Nat.zero_le _, heap_alloc_new w _, Nat.le_refl _, by simp [maxLen], by simp, by simp [vs]⟩⟩
/-- the rows so far: the gangs, and those alone -/
structure RD (w wr : World) (A : Option Addr) (n c : Nat) (A7 : Option Addr) (n7 c7 : Nat) (R : List Gg) : Prop where
  go : GO wr 0 A7 n7 c7 R
  low : ∀ j, (Value.slice A7 n7 c7).ownBlock = some j → w.heap.size + 1 ≤ j
  few : ∀ g ∈ R, g.2.1 ≤ 17
  bel : Below w.heap.size w wr
  kq : Blk wr w.heap.size 26 #[.slice A n c]
section
variable {w wr w' : World} {A A7 : Option Addr} {n c n7 c7 : Nat} {R : List Gg}
theorem RD.below (h : RD w wr A n c A7 n7 c7 R) (hb : Below wr.heap.size wr w') : RD w w' A n c A7 n7 c7 R := ⟨h.go.below hb, h.low, h.few, h.bel.trans (hb.mono h.bel.size), h.kq.below hb h.kq.lt⟩
theorem RD.more (h : RD w wr A n c A7 n7 c7 R) {A9 : Option Addr} {c9 : Nat} {o : Obj} {W : World} {id : Int}
    (hg : ((wr.alloc (.cells #[.int .i64 id] 3)).alloc o).grownBy W (Value.slice A7 n7 c7).ownBlock) (ho : W.ownsRow 0 40 1 (.slice A9 (n7 + 1) c9) (n7 + 1) (flat gv (R ++ [(some ⟨wr.heap.size, 0, none⟩, 1, 1, [id])])))
    (hw : (Value.slice A9 (n7 + 1) c9).ownBlock = (Value.slice A7 n7 c7).ownBlock ∨ (Value.slice A9 (n7 + 1) c9).ownBlock = some ((wr.alloc (.cells #[.int .i64 id] 3)).alloc o).heap.size) :
    RD w W A n c A9 (n7 + 1) c9 (R ++ [(some ⟨wr.heap.size, 0, none⟩, 1, 1, [id])]) := by
  have hB := (Below.refl wr.heap.size wr).alloc (Nat.le_refl _) (.cells #[.int .i64 id] 3)
  have hz : (wr.alloc (.cells #[.int .i64 id] 3)).heap.size = wr.heap.size + 1 := by simp
  have hz2 : ((wr.alloc (.cells #[.int .i64 id] 3)).alloc o).heap.size = wr.heap.size + 1 + 1 := by simp
  have hlo := h.low
  have hws := h.bel.size
  have hkl := h.kq.lt
  have h1 := h.go.below hB
  have hlt : ∀ j, (Value.slice A7 n7 c7).ownBlock = some j → j < wr.heap.size := fun j hj => (h.go.row.lt j hj).2
  refine ⟨h1.more (own_one wr id) (fun j j' hj hj' => ?_) hg ho hw, fun j hj => ?_, fun g hg2 => ?_, ?_, ?_⟩
  · have h2 := hlt j' hj'
    have h3 : some wr.heap.size = some j := hj
    injection h3 with h3
    omega
  · rcases hw with hw | hw
    · exact hlo j (hw ▸ hj)
    · rw [hj, hz2] at hw
      injection hw with hw
      omega
  · rcases List.mem_append.1 hg2 with h2 | h2
    · exact h.few g h2
    · rw [List.mem_singleton] at h2
      subst h2
      show 1 ≤ 17
      omega
  · have hb2 := (h.bel.alloc h.bel.size (.cells #[.int .i64 id] 3)).alloc (h.bel.alloc h.bel.size (.cells #[.int .i64 id] 3)).size o
    exact hb2.grown hg hb2.size (fun j hj => by have := hlo j hj; omega)
  · exact ((h.kq.alloc _).alloc o).grown hg (fun e => by have := hlo _ e.symm; omega)
end
theorem gw_own2 {w : World} {B n c : Nat} {A : Option Addr} {G : List Gg} (h : GO w B A n c G) (hn : n ≤ 34) (hm : ∀ g ∈ G, g.2.1 ≤ 17) : GW w A n G :=
  ⟨Reads.of_own h.row, by omega, fun g hg => ⟨⟨Reads.of_own (h.mem g hg), by have := hm g hg; omega⟩, by have := hm g hg; omega⟩⟩
/-- the next row of entities -/
structure NX (V wr : World) (A : Option Addr) (n c : Nat) (F : List En) : Prop where
  row : wr.ownsRow V.heap.size 47 6 (.slice A n c) n (flat ev F)
  mem : ∀ e ∈ F, (Reads V V.heap.size 1 e.1.1 e.1.2.1 (vs e.1.2.2.2) ∧ e.2.1.1 < 2 ^ 64 ∧ e.2.1.2.1 < 2 ^ 64 ∧ e.2.1.2.2 < 2 ^ 64) ∧ e.1.2.1 ≤ 1000
  bel : Below V.heap.size V wr
section
variable {V wr w' : World} {A A9 : Option Addr} {n c c9 : Nat} {F : List En}
theorem NX.nil (V : World) : NX V V none 0 0 [] := ⟨World.ownsRow_nil _ _ _ _, (fun e he => by cases he), Below.refl _ _⟩
theorem NX.below (h : NX V wr A n c F) (hb : Below wr.heap.size wr w') : NX V w' A n c F := ⟨own_below h.row hb, h.mem, h.bel.trans (hb.mono h.bel.size)⟩
theorem NX.more (h : NX V wr A n c F) {o : Obj} {e : En} (he : (Reads V V.heap.size 1 e.1.1 e.1.2.1 (vs e.1.2.2.2) ∧ e.2.1.1 < 2 ^ 64 ∧ e.2.1.2.1 < 2 ^ 64 ∧ e.2.1.2.2 < 2 ^ 64) ∧ e.1.2.1 ≤ 1000) (hg : (wr.alloc o).grownBy w' (Value.slice A n c).ownBlock)
    (ho : w'.ownsRow V.heap.size 47 6 (.slice A9 (n + 1) c9) (n + 1) (flat ev (F ++ [e]))) : NX V w' A9 (n + 1) c9 (F ++ [e]) := by
  refine ⟨ho, fun x hx => ?_, (h.bel.alloc h.bel.size o).grown hg (h.bel.alloc h.bel.size o).size (fun j hj => (h.row.lt j hj).1)⟩
  rcases List.mem_append.1 hx with hx | hx
  · exact h.mem x hx
  · rw [List.mem_singleton] at hx
    subst hx
    exact he
theorem NX.eq (h : NX V wr A n c F) (hn : n ≤ 100) : EQ wr A n F := ⟨Reads.of_own h.row, hn, fun e he => ((h.mem e he).1.1.below h.bel).more h.bel.size, fun e he => (h.mem e he).1.2⟩
end
theorem none_eq {w : World} : EQ w none 0 [] := ⟨⟨rfl, fun h => by omega⟩, by omega, (fun e he => by cases he), fun e he => by cases he⟩
/-- what the document's Entities answers -/
def EntsD (X : List Et) (w : World) (e : Ending) (w' : World) : Prop := ∃ A n c E, e = .returned (.slice A n c) ∧ EQ w' A n E ∧ E.map et = X ∧ Below w.heap.size w w'

set_option maxRecDepth 100000 in
set_option maxHeartbeats 16000000 in
theorem eents_any (A : Option Addr) (n c : Nat) (qs : List Rn) (A' : Option Addr) (n' c' : Nat) (ws : List Wt) (A2 : Option Addr) (n2 c2 : Nat) (G : List Gg) (w : World) (hG : QR w A n c qs) (hW : WT w A' n' c' ws) (hl : ws.length = qs.length) (hL : LG (pts qs ws))
    {B : Nat} (hGO : GO w B A2 n2 c2 G) (hGn : ∀ g ∈ G, g.2.1 ≤ 17) (hn2 : n2 ≤ 17) (hn : n ≤ 17) (hGR : ∀ g ∈ gsI G, g.Pairwise (· < ·)) :
    Calls Try.prog 16 #[.agg #[.slice A n c], .slice A' n' c', .slice A2 n2 c2] w (EntsD (sortE (entsP (pts qs ws) (gsI G))) w) := by
  obtain ⟨i0, hi0, hz0, hz1, hz2⟩ := info_parts9 slice_info
  obtain ⟨e0, he0, hy0, hy1, hy2⟩ := info_parts9 ent_info
  have HQ := Lib.hid hG
  have HW := Lib.hid hW
  have HLG := Lib.hid hL
  have HL := Lib.hid hl
  have HQL := Lib.hid hG.len
  have HWL : Hid (ws.length = n) := Lib.hid (by rw [hl]; exact hG.len)
  have HPL : Hid ((pts qs ws).length = n) := Lib.hid (by rw [pts_len hl]; exact hG.len)
  have HAT := Lib.hid (fun (k : Nat) (r : Rn) (v : Wt) (hr : qs[k]? = some r) (hw : ws[k]? = some v) => pts_at hr hw)
  have HGW := Lib.hid (gw_own hGO hn2 hGn)
  have HGL := Lib.hid hGO.len
  have HGR := Lib.hid hGR
  have HN := Lib.hid (And.intro hn2 hn)
  have HER : Hid (entsP (pts qs ws) (gsI G) = (gsI G ++ singL (pts qs ws) (gsI G)).flatMap fun g => mkP (takeP (pts qs ws) g)) := Lib.hid (ents_rows hL.rise (gsI G))
  have HEn := Lib.hid (fun (u : World) (hu : Below w.heap.size w u) (A3 : Option Addr) (n3 c3 : Nat) (g : List Int) (hI : IR u A3 n3 g) => eentity_any A n c qs A' n' c' ws A3 n3 c3 g u (hG.below hu) (hW.below hu) hl hL hI)
  obtain ⟨K0, GB⟩ := box1 w 26 #[.slice A n c]
  have HGG := Lib.hid (And.intro hGO hGn)
  have z0 := K0.cell 0
  have hRG := Reads.of_own hGO.row
  have HRR := Lib.hid (((hRG.below GB).more GB.size).alloc (Nat.le_refl _) (.cells #[] 40))
  have HKB := Lib.hid (And.intro K0 GB)
  have hsz : (w.alloc (.cells #[.slice A n c] 26)).heap.size = w.heap.size + 1 := by simp
  have HSZ := Lib.hid hsz
  generalize pts qs ws = PL at *
  clear hG hW hl hL hGO hGn hn2 hn hGR K0 GB hRG hsz
  go_enter Try.func16, Try.ntmps16
  go_wp2_with (
    at_builtin
    refine wpList_append_any _ rfl (.tmp 22) (.tmp 23) 28 rfl (w.heap.size + 1) 40 i0 (.slice none 0 0) 1 24 Try.underlying28 hi0 hz0 hz1 hz2 rfl (by decide) (.slice (some ⟨w.heap.size + 1, 0, none⟩) 0 0) 0 [] rfl (by simpa using World.ownsRow_made (w.alloc (.cells #[.slice A n c] 26)) #[] 0 (Nat.le_refl _) (by simp [maxLen]) (by simp)) _ A2 n2 c2 (flat gv G) rfl HRR.out (gv_ones _) (by simp only [maxLen]; have := HN.out.1; omega) (by have := HN.out.1; omega) (by simp) ?_
    intro v9 w9 own9 grow9 hw9
    rw [List.nil_append, Nat.zero_add] at own9
    obtain ⟨A9, c9, rfl, _, _⟩ := own_reads own9
    have hb9 : ∀ k, (Value.slice (some ⟨w.heap.size + 1, 0, none⟩) 0 0).ownBlock = some k → w.heap.size + 1 ≤ k := fun k hk => by simp [Value.ownBlock] at hk; omega
    have KK := (HKB.out.1.alloc (.cells #[] 40)).grown grow9 (fun hk => by have := hb9 _ hk.symm; omega)
    have GG := (HKB.out.2.alloc HKB.out.2.size (.cells #[] 40)).grown grow9 (HKB.out.2.alloc HKB.out.2.size (.cells #[] 40)).size (fun g hg => by have := hb9 g hg; omega)
    have HRD : Hid (RD w w9 A n c A9 n2 c9 G) := Lib.hid ⟨⟨own_down own9 (Nat.zero_le _), fun g hg => own_down (own_below (HGG.out.1.mem g hg) GG) (Nat.zero_le _), fun g hg j j' hj hj' => by have h1 := (own9.lt j' hj').1; have h2 := ((HGG.out.1.mem g hg).lt j hj).2; omega⟩, fun j hj => (own9.lt j hj).1, HGG.out.2, GG, KK⟩
    have z1 := HRD.out.kq.cell 0
    clear own9 grow9 hw9 KK GG hb9)
  clear z0 z1
  go_loopw [7, 28] (fun s i wr => ∃ (k : Nat) (A7 : Option Addr) (n7 c7 : Nat) (R : List Gg), k ≤ n ∧ s = .slice A7 n7 c7 ∧ i = .int .i64 (k : Int) ∧ n7 ≤ n2 + k ∧ Hid (RD w wr A n c A7 n7 c7 R) ∧ Hid (gsI R = gsI G ++ singL (PL.take k) (gsI G))) (fun _ i _ => n - (intOf i).toNat)
  case atStart => exact ⟨0, A9, n2, c9, G, Nat.zero_le _, rfl, rfl, by omega, HRD, Lib.hid (by show gsI G = gsI G ++ []; rw [List.append_nil])⟩
  case round =>
    clear HRD
    obtain ⟨k, A7, n7, c7, R, hk, rfl, rfl, hn7, HRD, HRI⟩ := hrel
    by_cases hlt : k < n
    · obtain ⟨⟨ri, a, h, l, x⟩, hx⟩ := elem_at (l := qs) (k := k) (by rw [HQL.out]; exact hlt)
      obtain ⟨⟨i, o, f⟩, hy⟩ := elem_at (l := ws) (k := k) (by rw [HWL.out]; exact hlt)
      have HP := Lib.hid (HAT.out k _ _ hx hy)
      obtain ⟨ad, rfl, _, d0, d1, d2, d3, d4⟩ := rn_at ((HQ.out.below HRD.out.bel).row) hx
      have i1 : (0 : Int) ≤ (k : Int) := by omega
      have i2 : (k : Int) < (n : Int) := by omega
      have HJ := Lib.hid (show k + 1 ≤ n ∧ n7 + 1 ≤ n2 + (k + 1) ∧ n7 ≤ n2 + (k + 1) ∧ n7 ≤ 34 by have := HN.out; omega)
      have j9 : k < 100 := by have := HN.out; omega
      have KR := Blk.new wr 59 #[.int .i64 ri, .int .i64 a, .int .u64 (h : Int), .int .u64 (l : Int), .int .u64 (x : Int)]
      have HRD1 := Lib.hid (HRD.out.below ((Below.refl wr.heap.size wr).alloc (Nat.le_refl _) (.cells #[.int .i64 ri, .int .i64 a, .int .u64 (h : Int), .int .u64 (l : Int), .int .u64 (x : Int)] 59)))
      clear hx hy HRD
      go_upto_region 5 with fail
      clear d0 d1 d2 d3 d4
      generalize hV : World.alloc _ _ = V1 at KR HRD1 ⊢
      generalize wr.heap.size = g9 at KR ⊢
      have HKR := Lib.hid KR
      clear hV KR
      go_wp2_with fail
      go_loopw [10, 34] (fun s i wr => ∃ j : Nat, j ≤ n2 ∧ s = .bool (aloneB (gsI (G.take j)) ri) ∧ i = .int .i64 (j : Int) ∧ Hid (Below V1.heap.size V1 wr)) (fun _ i _ => n2 - (intOf i).toNat)
      case atStart => exact ⟨0, Nat.zero_le _, rfl, rfl, Lib.hid (Below.refl _ _)⟩
      case round =>
        obtain ⟨j, hj, rfl, rfl, HB⟩ := hrel
        by_cases hjt : j < n2
        · obtain ⟨⟨A3, n3, c3, is⟩, hg⟩ := elem_at (l := G) (k := j) (by rw [HGL.out]; exact hjt)
          have hBW := HRD1.out.bel.trans (HB.out.mono HRD1.out.bel.size)
          obtain ⟨a2, rfl, _, q0⟩ := (HGW.out.below hBW).at_ hg
          have HHa := Lib.hid (rhas_any A3 n3 c3 is ri wr ((HGW.out.below hBW).each _ (List.mem_of_getElem? hg)).1)
          have HST := Lib.hid (alone_step hg ri)
          have r0 := (HKR.out.below HB.out HKR.out.lt).cell 0
          have i3 : (0 : Int) ≤ (j : Int) := by omega
          have i4 : (j : Int) < (n2 : Int) := by omega
          have HJ2 := Lib.hid (show j + 1 ≤ n2 by omega)
          have j8 : j < 100 := by have := HN.out; omega
          obtain ⟨b, hb⟩ : ∃ b, aloneB (gsI (G.take j)) ri = b := ⟨_, rfl⟩
          rw [hb] at HST ⊢
          clear hg hBW hb
          cases b with
          | false =>
            clear r0 HHa
            go_wp2_with fail
            go_roundw
            case rel => exact ⟨j + 1, HJ2.out, by rw [HST.out, Bool.false_and], by go_num, HB⟩
            case measure => simp [intOf] <;> omega
          | true =>
            go_wp2_with fail
            refine HHa.out.mono ?_
            rintro e w2 ⟨rfl, rfl⟩
            clear r0 q0
            go_wp2_with fail
            go_roundw
            case rel => exact ⟨j + 1, HJ2.out, by rw [HST.out, Bool.true_and], by go_num, HB⟩
            case measure => simp [intOf] <;> omega
        · obtain rfl : j = n2 := by omega
          rw [List.take_of_length_le (l := G) (by rw [HGL.out]; exact Nat.le_refl _)]
          have HRD2 := Lib.hid (HRD1.out.below HB.out)
          have r0 := (HKR.out.below HB.out HKR.out.lt).cell 0
          clear HB
          cases hal : aloneB (gsI G) ri with
          | false =>
            have HS2 := Lib.hid (sing_no HP.out hal)
            clear hal r0
            go_wp2_with fail
            go_roundw
            case rel => exact ⟨k + 1, A7, n7, c7, R, HJ.out.1, rfl, by go_num, HJ.out.2.2.1, HRD2, Lib.hid (by rw [HS2.out]; exact HRI.out)⟩
            case measure => simp [intOf] <;> omega
          | true =>
            have HS2 := Lib.hid (sing_yes HP.out hal)
            have HRW := Lib.hid (HRD2.out.go.row.alloc (.cells #[.int .i64 ri] 3))
            clear hal
            go_wp2_with (
              at_builtin
              refine wpList_append_any _ rfl (.tmp 48) (.tmp 52) 28 rfl 0 40 i0 (.slice none 0 0) 1 24 Try.underlying28 hi0 hz0 hz1 hz2 rfl (by decide) (.slice A7 n7 c7) n7 (flat gv R) rfl (HRW.out.alloc _) _ (some ⟨wr.heap.size + 1, 0, none⟩) 1 1 (flat gv [(some ⟨wr.heap.size, 0, none⟩, 1, 1, [ri])]) rfl (reads_new _ _ _ rfl (by simp)) (gv_ones _) (by simp only [maxLen]; have := HJ.out; omega) (by have := HJ.out; omega) (by simp) ?_
              intro v9 w9 own9 grow9 ne9
              rw [← flat_append] at own9
              obtain ⟨A8, c8, rfl, _, _⟩ := own_reads own9
              have HF := Lib.hid (HRD2.out.more grow9 own9 ne9)
              clear own9 grow9 ne9)
            clear r0
            go_wp2
            go_roundw
            case rel => exact ⟨k + 1, A8, n7 + 1, c8, _, HJ.out.1, rfl, by go_num, HJ.out.2.1, HF, Lib.hid (by rw [HS2.out, ← List.append_assoc, ← HRI.out]; unfold gsI; rw [List.map_append]; rfl)⟩
            case measure => simp [intOf] <;> omega
    · obtain rfl : k = n := by omega
      have HRI2 : Hid (gsI R = gsI G ++ singL PL (gsI G)) := Lib.hid (by have := HRI.out; rwa [List.take_of_length_le (l := PL) (by rw [HPL.out]; exact Nat.le_refl _)] at this)
      have HN7 : Hid (n7 ≤ 34) := Lib.hid (by have := HN.out; omega)
      have HGWR := Lib.hid (gw_own2 HRD.out.go HN7.out HRD.out.few)
      have HRise : Hid (∀ g ∈ gsI R, g.Pairwise (· < ·)) := Lib.hid (by
        rw [HRI2.out]
        intro g hg
        rcases List.mem_append.1 hg with hg | hg
        · exact HGR.out g hg
        · exact sing_rise g hg)
      obtain ⟨V0, hV0⟩ : ∃ V0, wr = V0 := ⟨_, rfl⟩
      have HBW := Lib.hid HRD.out.bel
      have HKQ := Lib.hid HRD.out.kq
      rw [hV0] at HGWR HBW HKQ ⊢
      clear hV0 HRD HRI
      have HGRL := Lib.hid HGWR.out.len
      go_wp2_with fail
      go_loopw [13, 57] (fun s i wr => ∃ (q : Nat) (A13 : Option Addr) (n13 c13 : Nat) (E : List En), q ≤ n7 ∧ s = .slice A13 n13 c13 ∧ i = .int .i64 (q : Int) ∧ n13 ≤ q ∧ Hid (EQ wr A13 n13 E ∧ ∀ e ∈ E, e.1.2.1 ≤ 1000) ∧ Hid (E.map et = sortE (((gsI R).take q).flatMap fun g => mkP (takeP PL g))) ∧ Hid (Below V0.heap.size V0 wr)) (fun _ i _ => n7 - (intOf i).toNat)
      case atStart => exact ⟨0, none, 0, 0, [], Nat.zero_le _, rfl, rfl, Nat.le_refl _, Lib.hid ⟨none_eq, (fun e he => by cases he)⟩, Lib.hid rfl, Lib.hid (Below.refl _ _)⟩
      case round =>
        obtain ⟨q, A13, n13, c13, E, hq, rfl, rfl, hn13, HE, HEM, HB⟩ := hrel
        by_cases hqt : q < n7
        · obtain ⟨⟨A3, n3, c3, g⟩, hg⟩ := elem_at (l := R) (k := q) (by rw [HGRL.out]; exact hqt)
          obtain ⟨a7, rfl, _, d0⟩ := (HGWR.out.below HB.out).at_ hg
          have hgi := gsI_at hg
          have hBW := HBW.out.trans (HB.out.mono HBW.out.size)
          have HC := Lib.hid (HEn.out wr hBW A3 n3 c3 g ((HGWR.out.below HB.out).each _ (List.mem_of_getElem? hg)).1)
          rw [among_all HLG.out.rise (HRise.out g (List.mem_of_getElem? hgi))] at HC
          have HTK : Hid (sortE (((gsI R).take (q + 1)).flatMap fun g => mkP (takeP PL g)) = if takeP PL g = [] then E.map et else insE (joinP (takeP PL g)) (E.map et)) := Lib.hid (by
            rw [List.take_add_one, hgi, List.flatMap_append, Option.toList_some, List.flatMap_cons, List.flatMap_nil, List.append_nil, sort_more, HEM.out])
          have HEF := Lib.hid (entS_facts (P := takeP PL g) HLG.out (fun p hp => takeP_sub p hp))
          have HID := Lib.hid (entS_ids (takeP PL g))
          have z0 := (HKQ.out.below HB.out HKQ.out.lt).cell 0
          have i1 : (0 : Int) ≤ (q : Int) := by omega
          have i2 : (q : Int) < (n7 : Int) := by omega
          have HJ := Lib.hid (show q + 1 ≤ n7 ∧ n13 ≤ q + 1 ∧ n13 + 1 ≤ q + 1 ∧ n13 + 1 ≤ 40 by have := HN7.out; omega)
          have j9 : q < 100 := by have := HN7.out; omega
          unfold EntOut at HC
          obtain ⟨m, hm⟩ : ∃ m, (takeP PL g).length = m := ⟨_, rfl⟩
          have hml : (idsP (takeP PL g)).length = m := by unfold idsP; rw [List.length_map]; exact hm
          have hpn : takeP PL g = [] ↔ m = 0 := by rw [← hm, List.length_eq_zero_iff]
          have hjn : takeP PL g ≠ [] → joinP (takeP PL g) = entS (takeP PL g) := fun h => by unfold entS; rw [if_neg h]
          obtain ⟨xi, hxi⟩ : ∃ xi, idsP (takeP PL g) = xi := ⟨_, rfl⟩
          rw [hm, hxi] at HC
          rw [hxi] at hml HID
          have HML := Lib.hid hml
          have HM16 : Hid (m ≤ 1000) := Lib.hid (by rw [← hm, takeP_eq HLG.out.rise (HRise.out g (List.mem_of_getElem? hgi))]; have h1 := List.length_filter_le (fun p : Pt => decide (p.1 ∈ g)) PL; have h2 := HPL.out; have h3 := HN.out; omega)
          clear hg hgi hBW hxi hm
          generalize takeP PL g = P at *
          by_cases hm0 : m = 0
          · rw [decide_eq_false (by omega)] at HC
            have HTK2 : Hid (sortE (((gsI R).take (q + 1)).flatMap fun g => mkP (takeP PL g)) = E.map et) := Lib.hid (by rw [HTK.out, if_pos (hpn.2 hm0)])
            clear hm0 hpn hjn HTK hml
            go_wp2_with fail
            refine HC.out.mono ?_
            rintro e w2 ⟨Am, cm, rfl, own, h9⟩
            have HBX := Lib.hid (HB.out.trans ((h9.alloc h9.size (.cells (agE Am m cm (entS P).2.1.1 (entS P).2.1.2.1 (entS P).2.1.2.2 (entS P).2.2.1 (entS P).2.2.2) 47)).mono HB.out.size))
            have HEX := Lib.hid (And.intro (HE.out.1.below (h9.alloc h9.size (.cells (agE Am m cm (entS P).2.1.1 (entS P).2.1.2.1 (entS P).2.1.2.2 (entS P).2.2.1 (entS P).2.2.2) 47))) HE.out.2)
            clear own h9 z0 d0
            unfold agE at HBX HEX ⊢
            go_wp2_with fail
            go_roundw
            case rel => exact ⟨q + 1, A13, n13, c13, E, HJ.out.1, rfl, by go_num, HJ.out.2.1, HEX, Lib.hid (by rw [HTK2.out]), HBX⟩
            case measure => simp [intOf] <;> omega
          · rw [decide_eq_true (by omega)] at HC
            have hpne : P ≠ [] := fun h => hm0 (hpn.1 h)
            have HTK2 : Hid (sortE (((gsI R).take (q + 1)).flatMap fun g => mkP (takeP PL g)) = insE (entS P) (E.map et)) := Lib.hid (by rw [HTK.out, if_neg hpne, hjn hpne])
            clear hm0 hpn hjn HTK hml hpne
            generalize hES : entS P = ES at *
            obtain ⟨xi', ⟨eh, el, ex⟩, eo, ef⟩ := ES
            have hxx : xi' = xi := HID.out
            subst hxx
            clear HID hES
            unfold agE at HC
            go_wp2_with fail
            refine HC.out.mono ?_
            rintro e w2 ⟨Am, cm, rfl, own, h9⟩
            have KX := Blk.new w2 47 #[.slice Am m cm, .int .u64 (eh : Int), .int .u64 (el : Int), .int .u64 (ex : Int), .int .u64 (eo : Int), .bool ef]
            have DX := (Below.refl w2.heap.size w2).alloc (Nat.le_refl _) (.cells #[.slice Am m cm, .int .u64 (eh : Int), .int .u64 (el : Int), .int .u64 (ex : Int), .int .u64 (eo : Int), .bool ef] 47)
            have HBX := Lib.hid (HB.out.trans ((h9.trans (DX.mono h9.size)).mono HB.out.size))
            have HEX := Lib.hid (And.intro (HE.out.1.below (h9.trans (DX.mono h9.size))) HE.out.2)
            have hrx := ((Reads.of_own own).below DX).more DX.size
            clear own h9 z0 d0 DX HE HB
            go_upto_region 19 with fail
            generalize hV1 : w2.alloc (.cells #[.slice Am m cm, .int .u64 (eh : Int), .int .u64 (el : Int), .int .u64 (ex : Int), .int .u64 (eo : Int), .bool ef] 47) = V1 at KX HBX HEX hrx ⊢
            generalize w2.heap.size = g16 at KX ⊢
            have HKX := Lib.hid KX
            have HMX : Hid ((Reads V1 V1.heap.size 1 Am m (vs xi') ∧ eh < 2 ^ 64 ∧ el < 2 ^ 64 ∧ ex < 2 ^ 64) ∧ m ≤ 1000) := Lib.hid ⟨⟨hrx, HEF.out.1, HEF.out.2.1, HEF.out.2.2.1⟩, HM16.out⟩
            have HEL := Lib.hid HEX.out.1.len
            obtain ⟨EL, hEL⟩ : ∃ EL, E.map et = EL := ⟨_, rfl⟩
            have HELE := Lib.hid hEL
            rw [hEL] at HTK2
            clear hV1 KX hrx hEL
            go_wp2_with fail
            go_loopw [18, 19, 72] (fun s b i wr => ∃ (j : Nat) (A18 : Option Addr) (n18 c18 : Nat) (v : Bool) (F : List En), j ≤ n13 ∧ s = .slice A18 n18 c18 ∧ b = .bool v ∧ i = .int .i64 (j : Int) ∧ n18 ≤ j + 1 ∧ (v = false → n18 = j) ∧ metB (xi', (eh, el, ex), eo, ef) EL j = v ∧ Hid (NX V1 wr A18 n18 c18 F) ∧ Hid (F.map et = nextK (xi', (eh, el, ex), eo, ef) EL j)) (fun _ _ i _ => n13 - (intOf i).toNat)
            case atStart => exact ⟨0, none, 0, 0, false, [], Nat.zero_le _, rfl, rfl, rfl, by omega, fun _ => rfl, rfl, Lib.hid (NX.nil _), Lib.hid rfl⟩
            case round =>
              obtain ⟨j, A18, n18, c18, v, F, hj, rfl, rfl, rfl, hn18, hv18, hmet, HNX, HFM⟩ := hrel
              by_cases hjt : j < n13
              · obtain ⟨⟨⟨A1, n1, c1, is1⟩, ⟨h1, l1, x1⟩, o1, f1⟩, hy⟩ := elem_at (l := E) (k := j) (by rw [HEL.out]; exact hjt)
                have hyl : EL[j]? = some (is1, (h1, l1, x1), o1, f1) := by rw [← HELE.out, List.getElem?_map, hy]; rfl
                have hym := List.mem_of_getElem? hy
                obtain ⟨ad, rfl, _, d0, d1, d2, d3, d4, d5⟩ := (HEX.out.1.below HNX.out.bel).at_ hy
                have HMY : Hid ((Reads V1 V1.heap.size 1 A1 n1 (vs is1) ∧ h1 < 2 ^ 64 ∧ l1 < 2 ^ 64 ∧ x1 < 2 ^ 64) ∧ n1 ≤ 1000) := Lib.hid ⟨⟨HEX.out.1.mem _ hym, HEX.out.1.u64 _ hym⟩, HEX.out.2 _ hym⟩
                have hl1 : is1.length = n1 := HEX.out.1.len_mem hym
                have HAh := Lib.hid (fun (u : World) (hu : Below V1.heap.size V1 u) => eahead_any Am m cm eh el ex eo ef xi' A1 n1 c1 h1 l1 x1 o1 f1 is1 u ⟨(HMX.out.1.1.below hu).more hu.size, HMX.out.2⟩ ⟨(HMY.out.1.1.below hu).more hu.size, HMY.out.2⟩ HMX.out.1.2.1 HMX.out.1.2.2.1 HMX.out.1.2.2.2 HMY.out.1.2.1 HMY.out.1.2.2.1 HMY.out.1.2.2.2)
                rw [ahead_doc HML.out hl1 HMX.out.1.2.2.1 HMY.out.1.2.2.1] at HAh
                unfold agE at HAh
                have KY := Blk.new wr 47 #[.slice A1 n1 c1, .int .u64 (h1 : Int), .int .u64 (l1 : Int), .int .u64 (x1 : Int), .int .u64 (o1 : Int), .bool f1]
                have DY := (Below.refl wr.heap.size wr).alloc (Nat.le_refl _) (.cells #[.slice A1 n1 c1, .int .u64 (h1 : Int), .int .u64 (l1 : Int), .int .u64 (x1 : Int), .int .u64 (o1 : Int), .bool f1] 47)
                have HNY := Lib.hid (HNX.out.below DY)
                have HLT : Hid (∀ j, (Value.slice A18 n18 c18).ownBlock = some j → j < wr.heap.size) := Lib.hid (fun j hj => (HNX.out.row.lt j hj).2)
                have i3 : (0 : Int) ≤ (j : Int) := by omega
                have i4 : (j : Int) < (n13 : Int) := by omega
                have HJ2 := Lib.hid (show j + 1 ≤ n13 ∧ n18 + 1 ≤ j + 1 + 1 ∧ n18 ≤ 40 by have := HJ.out; omega)
                have j8 : j < 100 := by have := HJ.out; omega
                have HYL := Lib.hid hyl
                have HMT := Lib.hid hmet
                have HST := Lib.hid (met_step (x := (xi', (eh, el, ex), eo, ef)) hyl)
                clear hy hym hl1 DY hyl hmet HNX
                go_upto_region 25 with fail
                clear d0 d1 d2 d3 d4 d5
                generalize hVy : wr.alloc (.cells #[.slice A1 n1 c1, .int .u64 (h1 : Int), .int .u64 (l1 : Int), .int .u64 (x1 : Int), .int .u64 (o1 : Int), .bool f1] 47) = Y at KY HNY ⊢
                generalize wr.heap.size = g21 at KY HLT ⊢
                have HKY := Lib.hid KY
                clear hVy KY
                cases v with
                | true =>
                  have y0 := HKY.out.cell 0
                  have y1 := HKY.out.cell 1
                  have y2 := HKY.out.cell 2
                  have y3 := HKY.out.cell 3
                  have y4 := HKY.out.cell 4
                  have y5 := HKY.out.cell 5
                  go_wp2_with (
                    at_builtin
                    refine wpList_append_any _ rfl (.tmp 87) (.tmp 89) 34 rfl V1.heap.size 47 e0 (.agg #[.slice none 0 0, .int .u64 0, .int .u64 0, .int .u64 0, .int .u64 0, .bool false]) 6 64 Try.underlying34 he0 hy0 hy1 hy2 rfl (by decide) (.slice A18 n18 c18) n18 (flat ev F) rfl (HNY.out.row.alloc _) _ _ 1 1 (flat ev [((A1, n1, c1, is1), (h1, l1, x1), o1, f1)]) rfl (reads_new _ _ _ rfl rfl) (ev_ones _) (by simp only [maxLen]; have := HJ2.out; omega) (by have := HJ2.out; omega) (by have := HNY.out.bel.size; simp; omega) ?_
                    intro v9 w9 own9 grow9 ne9
                    rw [← flat_append] at own9
                    obtain ⟨B9, cB9, rfl, _, _⟩ := own_reads own9
                    have HFB9 := Lib.hid (HNY.out.more (e := ((A1, n1, c1, is1), (h1, l1, x1), o1, f1)) HMY.out grow9 own9)
                    clear own9 grow9 ne9)
                  clear y0 y1 y2 y3 y4 y5
                  go_wp2
                  go_roundw
                  case rel => exact ⟨j + 1, B9, n18 + 1, cB9, true, _, HJ2.out.1, rfl, rfl, by go_num, HJ2.out.2.1, (fun h => by cases h), by rw [HST.out, HMT.out]; rfl, HFB9, Lib.hid (by rw [next_on HYL.out (.inl HMT.out), List.map_append, HFM.out]; rfl)⟩
                  case measure => simp [intOf] <;> omega
                | false =>
                  have hnj : n18 = j := hv18 rfl
                  subst hnj
                  obtain ⟨av, hav⟩ : ∃ av, aheadE (xi', (eh, el, ex), eo, ef) (is1, (h1, l1, x1), o1, f1) = av := ⟨_, rfl⟩
                  rw [hav] at HAh HST
                  have HAV := Lib.hid hav
                  clear hav hv18
                  have q0 := (HKX.out.below HNY.out.bel HKX.out.lt).cell 0
                  have q1 := (HKX.out.below HNY.out.bel HKX.out.lt).cell 1
                  have q2 := (HKX.out.below HNY.out.bel HKX.out.lt).cell 2
                  have q3 := (HKX.out.below HNY.out.bel HKX.out.lt).cell 3
                  have q4 := (HKX.out.below HNY.out.bel HKX.out.lt).cell 4
                  have q5 := (HKX.out.below HNY.out.bel HKX.out.lt).cell 5
                  have y0 := HKY.out.cell 0
                  have y1 := HKY.out.cell 1
                  have y2 := HKY.out.cell 2
                  have y3 := HKY.out.cell 3
                  have y4 := HKY.out.cell 4
                  have y5 := HKY.out.cell 5
                  cases av with
                  | false =>
                    go_wp2_with fail
                    refine (HAh.out _ HNY.out.bel).mono ?_
                    rintro e w8 ⟨rfl, h9⟩
                    have HNZ := Lib.hid (HNY.out.below h9)
                    have HKZ := Lib.hid (HKY.out.below h9 HKY.out.lt)
                    clear h9 q0 q1 q2 q3 q4 q5 y0 y1 y2 y3 y4 y5 HNY HKY
                    have y0 := HKZ.out.cell 0
                    have y1 := HKZ.out.cell 1
                    have y2 := HKZ.out.cell 2
                    have y3 := HKZ.out.cell 3
                    have y4 := HKZ.out.cell 4
                    have y5 := HKZ.out.cell 5
                    go_wp2_with (
                      at_builtin
                      refine wpList_append_any _ rfl (.tmp 87) (.tmp 89) 34 rfl V1.heap.size 47 e0 (.agg #[.slice none 0 0, .int .u64 0, .int .u64 0, .int .u64 0, .int .u64 0, .bool false]) 6 64 Try.underlying34 he0 hy0 hy1 hy2 rfl (by decide) (.slice A18 n18 c18) n18 (flat ev F) rfl (HNZ.out.row.alloc _) _ _ 1 1 (flat ev [((A1, n1, c1, is1), (h1, l1, x1), o1, f1)]) rfl (reads_new _ _ _ rfl rfl) (ev_ones _) (by simp only [maxLen]; have := HJ2.out; omega) (by have := HJ2.out; omega) (by have := HNZ.out.bel.size; simp; omega) ?_
                      intro v9 w9 own9 grow9 ne9
                      rw [← flat_append] at own9
                      obtain ⟨B9, cB9, rfl, _, _⟩ := own_reads own9
                      have HFB9 := Lib.hid (HNZ.out.more (e := ((A1, n1, c1, is1), (h1, l1, x1), o1, f1)) HMY.out grow9 own9)
                      clear own9 grow9 ne9)
                    clear y0 y1 y2 y3 y4 y5
                    go_wp2
                    go_roundw
                    case rel => exact ⟨n18 + 1, B9, n18 + 1, cB9, false, _, HJ2.out.1, rfl, rfl, by go_num, HJ2.out.2.1, (fun _ => rfl), by rw [HST.out, HMT.out]; rfl, HFB9, Lib.hid (by rw [next_on HYL.out (.inr HAV.out), List.map_append, HFM.out]; rfl)⟩
                    case measure => simp [intOf] <;> omega
                  | true =>
                    go_wp2_with fail
                    refine (HAh.out _ HNY.out.bel).mono ?_
                    rintro e w8 ⟨rfl, h9⟩
                    have HNZ := Lib.hid (HNY.out.below h9)
                    have HKZ := Lib.hid (HKY.out.below h9 HKY.out.lt)
                    clear h9 q0 q1 q2 q3 q4 q5 y0 y1 y2 y3 y4 y5 HNY HKY
                    have q0 := (HKX.out.below HNZ.out.bel HKX.out.lt).cell 0
                    have q1 := (HKX.out.below HNZ.out.bel HKX.out.lt).cell 1
                    have q2 := (HKX.out.below HNZ.out.bel HKX.out.lt).cell 2
                    have q3 := (HKX.out.below HNZ.out.bel HKX.out.lt).cell 3
                    have q4 := (HKX.out.below HNZ.out.bel HKX.out.lt).cell 4
                    have q5 := (HKX.out.below HNZ.out.bel HKX.out.lt).cell 5
                    have y0 := HKZ.out.cell 0
                    have y1 := HKZ.out.cell 1
                    have y2 := HKZ.out.cell 2
                    have y3 := HKZ.out.cell 3
                    have y4 := HKZ.out.cell 4
                    have y5 := HKZ.out.cell 5
                    go_wp2_with (
                      first
                      | (
                          at_builtin
                          refine wpList_append_any _ rfl (.tmp 83) (.tmp 85) 34 rfl V1.heap.size 47 e0 (.agg #[.slice none 0 0, .int .u64 0, .int .u64 0, .int .u64 0, .int .u64 0, .bool false]) 6 64 Try.underlying34 he0 hy0 hy1 hy2 rfl (by decide) (.slice A18 n18 c18) n18 (flat ev F) rfl (HNZ.out.row.alloc _) _ _ 1 1 (flat ev [((Am, m, cm, xi'), (eh, el, ex), eo, ef)]) rfl (reads_new _ _ _ rfl rfl) (ev_ones _) (by simp only [maxLen]; have := HJ2.out; omega) (by have := HJ2.out; omega) (by have := HNZ.out.bel.size; simp; omega) ?_
                          intro v9 w9 own9 grow9 ne9
                          rw [← flat_append] at own9
                          obtain ⟨B9, cB9, rfl, _, _⟩ := own_reads own9
                          have HFB9 := Lib.hid (HNZ.out.more (e := ((Am, m, cm, xi'), (eh, el, ex), eo, ef)) HMX.out grow9 own9)
                          have HKW := Lib.hid ((HKZ.out.alloc _).grown grow9 (fun e => absurd (HLT.out _ e.symm) (Nat.lt_irrefl _)))
                          clear own9 grow9 ne9
                          clear y0 y1 y2 y3 y4 y5 q0 q1 q2 q3 q4 q5
                          have y0 := HKW.out.cell 0
                          have y1 := HKW.out.cell 1
                          have y2 := HKW.out.cell 2
                          have y3 := HKW.out.cell 3
                          have y4 := HKW.out.cell 4
                          have y5 := HKW.out.cell 5
                          )
                      | (
                          at_builtin
                          refine wpList_append_any _ rfl (.tmp 87) (.tmp 89) 34 rfl V1.heap.size 47 e0 (.agg #[.slice none 0 0, .int .u64 0, .int .u64 0, .int .u64 0, .int .u64 0, .bool false]) 6 64 Try.underlying34 he0 hy0 hy1 hy2 rfl (by decide) (.slice B9 (n18 + 1) cB9) (n18 + 1) (flat ev (F ++ [((Am, m, cm, xi'), (eh, el, ex), eo, ef)])) rfl (HFB9.out.row.alloc _) _ _ 1 1 (flat ev [((A1, n1, c1, is1), (h1, l1, x1), o1, f1)]) rfl (reads_new _ _ _ rfl rfl) (ev_ones _) (by simp only [maxLen]; have := HJ2.out; omega) (by have := HJ2.out; omega) (by have := HFB9.out.bel.size; simp; omega) ?_
                          intro v9 w9 own9 grow9 ne9
                          rw [← flat_append] at own9
                          obtain ⟨D9, cD9, rfl, _, _⟩ := own_reads own9
                          have HFD9 := Lib.hid (HFB9.out.more (e := ((A1, n1, c1, is1), (h1, l1, x1), o1, f1)) HMY.out grow9 own9)
                          clear own9 grow9 ne9
                          ))
                    clear y0 y1 y2 y3 y4 y5
                    go_wp2
                    go_roundw
                    case rel => exact ⟨n18 + 1, D9, n18 + 1 + 1, cD9, true, _, HJ2.out.1, rfl, rfl, by go_num, by omega, (fun h => by cases h), by rw [HST.out, HMT.out]; rfl, HFD9, Lib.hid (by rw [next_here HYL.out HMT.out HAV.out, List.map_append, List.map_append, HFM.out]; rfl)⟩
                    case measure => simp [intOf] <;> omega
              · obtain rfl : j = n13 := by omega
                have HEN := Lib.hid (next_end (x := (xi', (eh, el, ex), eo, ef)) (l := EL))
                have hLL : EL.length = j := by rw [← HELE.out, List.length_map]; exact HEL.out
                rw [hLL, hmet] at HEN
                have HV1B := Lib.hid HBX.out
                cases v with
                | true =>
                  have HBZ := Lib.hid (HBX.out.trans (HNX.out.bel.mono HBX.out.size))
                  have HEZ := Lib.hid (And.intro (HNX.out.eq (by have := HJ.out; omega)) (fun e he => (HNX.out.mem e he).2))
                  have HFZ : Hid (F.map et = sortE (((gsI R).take (q + 1)).flatMap fun g => mkP (takeP PL g))) := Lib.hid (by rw [HTK2.out, HEN.out, if_pos rfl, HFM.out])
                  have HJ3 := Lib.hid (show n18 ≤ q + 1 by have := HJ.out; omega)
                  clear hmet hLL
                  go_wp2_with fail
                  go_roundw
                  case rel => exact ⟨q + 1, A18, n18, c18, F, HJ.out.1, rfl, by go_num, HJ3.out, HEZ, HFZ, HBZ⟩
                  case measure => simp [intOf] <;> omega
                | false =>
                  have hnj : n18 = j := hv18 rfl
                  subst hnj
                  clear hmet hLL hv18
                  have HJ3 := Lib.hid (show n18 + 1 ≤ 40 by have := HJ.out; omega)
                  have q0 := (HKX.out.below HNX.out.bel HKX.out.lt).cell 0
                  have q1 := (HKX.out.below HNX.out.bel HKX.out.lt).cell 1
                  have q2 := (HKX.out.below HNX.out.bel HKX.out.lt).cell 2
                  have q3 := (HKX.out.below HNX.out.bel HKX.out.lt).cell 3
                  have q4 := (HKX.out.below HNX.out.bel HKX.out.lt).cell 4
                  have q5 := (HKX.out.below HNX.out.bel HKX.out.lt).cell 5
                  go_wp2_with (
                    at_builtin
                    refine wpList_append_any _ rfl (.tmp 94) (.tmp 96) 34 rfl V1.heap.size 47 e0 (.agg #[.slice none 0 0, .int .u64 0, .int .u64 0, .int .u64 0, .int .u64 0, .bool false]) 6 64 Try.underlying34 he0 hy0 hy1 hy2 rfl (by decide) (.slice A18 n18 c18) n18 (flat ev F) rfl (HNX.out.row.alloc _) _ _ 1 1 (flat ev [((Am, m, cm, xi'), (eh, el, ex), eo, ef)]) rfl (reads_new _ _ _ rfl rfl) (ev_ones _) (by simp only [maxLen]; have := HJ3.out; omega) (by have := HJ3.out; omega) (by have := HNX.out.bel.size; simp; omega) ?_
                    intro v9 w9 own9 grow9 ne9
                    rw [← flat_append] at own9
                    obtain ⟨B9, cB9, rfl, _, _⟩ := own_reads own9
                    have HFB9 := Lib.hid (HNX.out.more (e := ((Am, m, cm, xi'), (eh, el, ex), eo, ef)) HMX.out grow9 own9)
                    clear own9 grow9 ne9)
                  clear q0 q1 q2 q3 q4 q5
                  have HBZ := Lib.hid (HBX.out.trans (HFB9.out.bel.mono HBX.out.size))
                  have HEZ := Lib.hid (And.intro (HFB9.out.eq (by have := HJ.out; omega)) (fun e he => (HFB9.out.mem e he).2))
                  have HFZ : Hid ((F ++ [((Am, m, cm, xi'), (eh, el, ex), eo, ef)]).map et = sortE (((gsI R).take (q + 1)).flatMap fun g => mkP (takeP PL g))) := Lib.hid (by rw [HTK2.out, HEN.out, if_neg (by simp), List.map_append, HFM.out]; rfl)
                  go_wp2_with fail
                  go_roundw
                  case rel => exact ⟨q + 1, B9, n18 + 1, cB9, _, HJ.out.1, rfl, by go_num, HJ.out.2.2.1, HEZ, HFZ, HBZ⟩
                  case measure => simp [intOf] <;> omega
        · obtain rfl : q = n7 := by omega
          have HFI : Hid (E.map et = sortE (entsP PL (gsI G))) := Lib.hid (by rw [HEM.out, HER.out, ← HRI2.out, List.take_of_length_le (by rw [gsI_len, HGRL.out]; exact Nat.le_refl _)])
          have HBZ := Lib.hid (HBW.out.trans (HB.out.mono HBW.out.size))
          clear HEM HB
          go_wp2_with fail
          go_ret
          exact ⟨A13, n13, c13, E, rfl, HE.out.1, HFI.out, HBZ.out⟩

end Go.Proofs.Ytngbamoffjlodaa
