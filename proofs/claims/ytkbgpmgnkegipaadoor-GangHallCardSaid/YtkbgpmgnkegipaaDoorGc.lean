/-
  The landed gang: the closure that takes a pCPU for a row, and calls itself; its map, its array. No statement is proved here.
-/
import Derived.Test.YtkbgpmgnkegipaaDoorGb
import Derived.Maps.OwnSet
import Derived.Maps.OwnOps
import Derived.Maps.Views
namespace Go.Proofs.YtkbgpmgnkegipaaDoor
open Go.RowKit Go.Maps

/-! ### the map -/
def keyL (s : Nat) : Lit := .int .i64 (s : Int)
theorem key_law : Keyed Tryd.prog 3 := int_keyed Tryd.underlying3
theorem key_of {s : Nat} (h : s < 256) : keyOf Tryd.prog 3 (.int .i64 (s : Int)) = some (keyL s) := keyOf_int_mk Tryd.underlying3 (WalkArith.wf_i64 (by omega))
theorem zero_int (w : World) : (zeroValue 3).run Tryd.prog w = .ok (.int .i64 0) w := by kernel_rfl
def natI (F : Nat → Option Nat) (s : Nat) : Int := (((F s).getD 0 : Nat) : Int)
def Rep (D : DataW Unit) (F : Nat → Option Nat) : Prop := ∀ s : Nat, D.atKey (keyL s) (.lit (.int .i64 0)) = .lit (.int .i64 (natI F s)) ∧ Maps.has D (keyL s) = (F s).isSome
theorem rep_empty : Rep (.map []) fun _ => none := fun s => ⟨atKey_of_not_has (by simp [has_eq]) _, by simp [has_eq]⟩
theorem key_ne {s t : Nat} (h : t ≠ s) : keyL t ≠ keyL s := fun e => by
  unfold keyL at e
  injection e with _ e
  omega
theorem rep_put {D : DataW Unit} {F : Nat → Option Nat} (h : Rep D F) (hD : IsMap D) (s v : Nat) : Rep (D.put (keyL s) (.lit (.int .i64 (v : Int)))) (put F s (some v)) := fun t => by
  by_cases e : t = s
  · subst e
    unfold natI
    rw [put_same, atKey_put_same hD (by trivial), has_put_same hD (by trivial)]
    exact ⟨rfl, rfl⟩
  · unfold natI
    rw [put_other e, atKey_put_other (key_ne e), has_put_other (key_ne e)]
    exact h t
theorem rep_look {D : DataW Unit} {F : Nat → Option Nat} (h : Rep D F) {s : Nat} {c : Int} (hat : D.atKey (keyL s) (.lit (.int .i64 0)) = .lit (.int .i64 c)) : c = natI F s := by
  rw [(h s).1] at hat
  injection hat with hat
  injection hat with _ hat
  exact hat.symm
abbrev MapW (w : World) (bm n : Nat) (D : DataW Unit) : Prop := w.ownsMap Tryd.prog 3 (plainElem (H := Unit) Tryd.prog 3) bm n D
/-! ### the array -/
def askA (F : Nat → Bool) : Array Value := #[.bool (F 0), .bool (F 1), .bool (F 2), .bool (F 3), .bool (F 4), .bool (F 5), .bool (F 6), .bool (F 7)]
theorem below8 {c : Nat} (h : c < 8) : c = 0 ∨ c = 1 ∨ c = 2 ∨ c = 3 ∨ c = 4 ∨ c = 5 ∨ c = 6 ∨ c = 7 := by omega
theorem askA_set (F : Nat → Bool) {c : Nat} (h : c < 8) (v : Bool) : (askA F).setIfInBounds c (.bool v) = askA (put F c v) := by
  rcases below8 h with rfl | rfl | rfl | rfl | rfl | rfl | rfl | rfl <;> rfl
theorem askA_at (F : Nat → Bool) {c : Nat} (h : c < 8) : (askA F)[c]? = some (.bool (F c)) := by
  rcases below8 h with rfl | rfl | rfl | rfl | rfl | rfl | rfl | rfl <;> rfl

/-! ### what turns: the map and the array -/
structure Two (bm ba : Nat) (w w' : World) : Prop where
  os : w'.os = w.os
  tape : w'.tape = w.tape
  output : w'.output = w.output
  size : w.heap.size ≤ w'.heap.size
  block : ∀ k, k < w.heap.size → k ≠ bm → k ≠ ba → w'.heap[k]? = w.heap[k]?
section
variable {bm ba : Nat} {w w' w'' : World}
theorem Two.refl (bm ba : Nat) (w : World) : Two bm ba w w := ⟨rfl, rfl, rfl, Nat.le_refl _, fun _ _ _ _ => rfl⟩
theorem Two.trans (h : Two bm ba w w') (h' : Two bm ba w' w'') : Two bm ba w w'' :=
  ⟨h'.os.trans h.os, h'.tape.trans h.tape, h'.output.trans h.output, Nat.le_trans h.size h'.size, fun k hk h1 h2 => (h'.block k (Nat.lt_of_lt_of_le hk h.size) h1 h2).trans (h.block k hk h1 h2)⟩
theorem Two.grown (h : w.grownBy w' (some bm)) : Two bm ba w w' := ⟨h.os, h.tape, h.output, h.size, fun k hk h1 _ => h.block k hk (fun e => h1 (Option.some.inj e))⟩
theorem Two.set (w : World) (i : Nat) (v : Value) : Two bm ba w (w.setCell ⟨ba, i, none⟩ v) := by
  have h := (Below.refl 0 w).setCell (p := ⟨ba, i, none⟩) (Nat.zero_le _) v
  exact ⟨h.os, h.tape, h.output, h.size, fun k _ _ h2 => Below.heap_setCell w ⟨ba, i, none⟩ v k h2⟩
theorem Two.below (h : Two bm ba w w') {b : Nat} (h1 : b ≤ bm) (h2 : b ≤ ba) (hs : b ≤ w.heap.size) : Below b w w' := ⟨h.os, h.tape, h.output, h.size, fun k hk => h.block k (by omega) (by omega) (by omega)⟩
theorem Blk.two {g : Nat} {t : TypeId} {cs : Array Value} (K : Blk w g t cs) (h : Two bm ba w w') (h1 : g ≠ bm) (h2 : g ≠ ba) : Blk w' g t cs := (h.block g K.lt h1 h2).trans K
end

/-! ### where all of it lies -/
def takeClo (bl ba bf bk : Nat) : Value := .func (.func 38) #[] #[.pointer (some ⟨bl, 0, none⟩), .pointer (some ⟨ba, 0, none⟩), .pointer (some ⟨bf, 0, none⟩), .pointer (some ⟨bk, 0, none⟩)]
structure Kp (bl bm bf ba bk : Nat) (A : Option Addr) (N c : Nat) (gs : List Gg) (w : World) : Prop where
  atL : Blk w bl 42 #[.slice A N c]
  atF : Blk w bf 68 #[.map (some bm)]
  atK : Blk w bk 61 #[takeClo bl ba bf bk]
  row : Reads w bl 1 A N (flat gv gs)
  each : ∀ g ∈ gs, Reads w bl 1 g.1 g.2.1 (vs g.2.2.2) ∧ g.2.1 ≤ 1000
  lt : bm < w.heap.size
  small : N ≤ 1000
structure Ord5 (bl bm bf ba bk : Nat) : Prop where
  h1 : bl < bm
  h2 : bm < bf
  h3 : bf < ba
  h4 : ba < bk
section
variable {bl bm bf ba bk : Nat} {A : Option Addr} {N c : Nat} {gs : List Gg} {w w' : World}
theorem Kp.two (h : Kp bl bm bf ba bk A N c gs w) (o : Ord5 bl bm bf ba bk) (ht : Two bm ba w w') : Kp bl bm bf ba bk A N c gs w' := by
  have hb := ht.below (b := bl) (by have := o.h1; omega) (by have := o.h1; have := o.h2; have := o.h3; omega) (by have := h.lt; have := o.h1; omega)
  exact ⟨h.atL.two ht (by have := o.h1; omega) (by have := o.h1; have := o.h2; have := o.h3; omega), h.atF.two ht (by have := o.h2; omega) (by have := o.h3; omega), h.atK.two ht (by have := o.h2; have := o.h3; have := o.h4; omega) (by have := o.h4; omega),
    h.row.below hb, fun g hg => ⟨(h.each g hg).1.below hb, (h.each g hg).2⟩, Nat.lt_of_lt_of_le h.lt ht.size, h.small⟩
theorem Kp.len (h : Kp bl bm bf ba bk A N c gs w) : gs.length = N := by
  have h1 := h.row.1
  rw [length_flat gv length_gv] at h1
  omega
theorem Kp.at_ (h : Kp bl bm bf ba bk A N c gs w) {k : Nat} {g : Gg} (hx : gs[k]? = some g) : ∃ ad, A = some ad ∧ w.cell? (ad.add k) = some (.slice g.1 g.2.1 g.2.2.1) := by
  obtain ⟨ad, e, hb, hc⟩ := h.row.elem gv length_gv hx (by omega)
  have := hc 0 _ rfl
  rw [Nat.mul_one, Nat.add_zero] at this
  exact ⟨ad, e, this⟩
end
theorem reads_int {w : World} {B n : Nat} {A : Option Addr} {is : List Int} (h : Reads w B 1 A n (vs is)) {j : Nat} {x : Int} (hx : is[j]? = some x) : ∃ ad, A = some ad ∧ w.cell? (ad.add j) = some (.int .i64 x) := by
  have h1 := h.1
  rw [length_vs] at h1
  have := (List.getElem?_eq_some_iff.1 hx).1
  obtain ⟨ad, e, hb, hc⟩ := h.2 (by omega)
  exact ⟨ad, e, hc j _ (by unfold vs; rw [List.getElem?_map, hx]; rfl)⟩

/-- how many are not asked for yet -/
def leftN (A : Nat → Bool) : Nat := cnt (fun i => !A i) 8
theorem left_put {A : Nat → Bool} {x : Nat} (hx : x < 8) (h : A x = false) : leftN A = leftN (put A x true) + 1 := by
  unfold leftN
  rw [cnt_one (P := fun i => !A i) hx (by simp [h])]
  congr 1
  apply cnt_ext
  intro k _
  by_cases e : k = x
  · subst e; rw [put_same]; simp
  · rw [put_other e]; simp [e]
theorem left_mono {A B : Nat → Bool} (h : ∀ c, A c = true → B c = true) : leftN B ≤ leftN A := by
  unfold leftN
  apply cnt_mono
  intro k _ hk
  cases ha : A k with
  | false => rfl
  | true => have := h k ha; simp [this] at hk

/-- what a call of the closure comes to -/
def TakeSaid (cs : List (List Int)) (bm ba K : Nat) (H : Nat → Option Nat) (A : Nat → Bool) (p n : Nat) (w : World) (e : Ending) (w' : World) : Prop :=
  ∃ (b : Bool) (D' : DataW Unit) (H' : Nat → Option Nat) (A' : Nat → Bool) (n' : Nat), e = .returned (.bool b) ∧ Two bm ba w w' ∧ MapW w' bm n' D' ∧ Rep D' H' ∧ Blk w' ba 69 (askA A') ∧ n' ≤ n + (if b = true then K else 0) ∧
    (b = true → TakeOk cs H A p H') ∧ (b = false → H' = H ∧ ∃ row, cs[p]? = some row ∧ TakeNo cs H A row A')
abbrev takeArgs (bl ba bf bk : Nat) (p : Int) : Array Value := #[.int .i64 p, .pointer (some ⟨bl, 0, none⟩), .pointer (some ⟨ba, 0, none⟩), .pointer (some ⟨bf, 0, none⟩), .pointer (some ⟨bk, 0, none⟩)]
/-- a round's state -/
structure Rnd (cs : List (List Int)) (bl bm bf ba bk : Nat) (A : Option Addr) (N c : Nat) (gs : List Gg) (H : Nat → Option Nat) (As : Nat → Bool) (n : Nat) (w : World) (row : List Int) (D' : DataW Unit) (B : Nat → Bool) (n' : Nat) (wr : World) : Prop where
  kp : Kp bl bm bf ba bk A N c gs wr
  map : MapW wr bm n' D'
  rep : Rep D' H
  ask : Blk wr ba 69 (askA B)
  no : TakeNo cs H As row B
  cost : n' ≤ n
  two : Two bm ba w wr

section
variable (bl bm bf ba bk : Nat) (A : Option Addr) (N c : Nat) (gs : List Gg)

set_option maxRecDepth 100000 in
set_option maxHeartbeats 8000000 in
theorem take_one (o : Ord5 bl bm bf ba bk) (hG : RowsG (gsI gs)) (K : Nat) (H : Nat → Option Nat) (As : Nat → Bool) (p n : Nat) (D : DataW Unit) (w : World) (hK : leftN As ≤ K) (hk : n + K ≤ 1000) (hP : PreT (gsI gs) H As p) (S : Kp bl bm bf ba bk A N c gs w) (hM : MapW w bm n D) (hR : Rep D H) (hA : Blk w ba 69 (askA As)) (hp : p < N)
    (IH : ∀ (r : Nat) (B : Nat → Bool) (n1 : Nat) (D1 : DataW Unit) (w1 : World), r < N → leftN B + 1 ≤ K → n1 ≤ n → PreT (gsI gs) H B r → Kp bl bm bf ba bk A N c gs w1 → MapW w1 bm n1 D1 → Rep D1 H → Blk w1 ba 69 (askA B) →
      Calls Tryd.prog 38 (takeArgs bl ba bf bk r) w1 (TakeSaid (gsI gs) bm ba (K - 1) H B r n1 w1)) :
    Calls Tryd.prog 38 (takeArgs bl ba bf bk p) w (TakeSaid (gsI gs) bm ba K H As p n w) := by
  obtain ⟨⟨A2, m, c2, is⟩, hx⟩ := elem_at (l := gs) (k := p) (by rw [S.len]; exact hp)
  obtain ⟨ad, rfl, c1⟩ := S.at_ hx
  have hI := S.each _ (List.mem_of_getElem? hx)
  have hrow := gsI_at hx
  have hil : is.length = m := by have h1 : (vs is).length = m * 1 := hI.1.1; rw [length_vs] at h1; omega
  have c0 : w.cell? ⟨bl, 0, none⟩ = some (.slice (some ad) N c) := S.atL.cell 0
  have i0 : (0 : Int) ≤ (p : Int) := by omega
  have i1 : (p : Int) < (N : Int) := by omega
  have hm1 : m ≤ 1000 := hI.2
  have HX := Lib.hid (show (gsI gs)[p]? = some is ∧ is.length = m ∧ gs[p]? = some (A2, m, c2, is) from ⟨hrow, hil, hx⟩)
  have HF := Lib.hid (show RowsG (gsI gs) ∧ leftN As ≤ K ∧ n + K ≤ 1000 ∧ PreT (gsI gs) H As p from ⟨hG, hK, hk, hP⟩)
  have HO := Lib.hid o
  have HIH := Lib.hid IH
  have HNs : Hid (N ≤ 1000) := Lib.hid S.small
  have HLN : Hid ((gsI gs).length = N) := Lib.hid (by rw [gsI_len]; exact S.len)
  have HR0 : Hid (Rnd (gsI gs) bl bm bf ba bk (some ad) N c gs H As n w (is.take 0) D As n w) := Lib.hid ⟨S, hM, hR, hA, no_zero _ _ _, Nat.le_refl _, Two.refl _ _ _⟩
  clear o hG hK hk hP S hM hR hA IH hI hrow hil hx hp
  go_enter Tryd.func38, Tryd.ntmps38
  go_wp2_with fail
  clear c0 c1
  go_loopw [16] (fun i wr => ∃ (j : Nat) (D' : DataW Unit) (B : Nat → Bool) (n' : Nat), j ≤ m ∧ i = .int .i64 (j : Int) ∧ Hid (Rnd (gsI gs) bl bm bf ba bk (some ad) N c gs H As n w (is.take j) D' B n' wr)) (fun i _ => m - (intOf i).toNat)
  case atStart => exact ⟨0, _, _, _, by omega, rfl, HR0⟩
  case round =>
    clear HR0
    obtain ⟨j, D', B, n', hj, rfl, HRj⟩ := hrel
    by_cases hlt : j < m
    · obtain ⟨x0, hx⟩ := elem_at (l := is) (k := j) (by rw [HX.out.2.1]; exact hlt)
      have hgood := HF.out.1 is (List.mem_of_getElem? HX.out.1) x0 (List.mem_of_getElem? hx)
      obtain ⟨x, rfl⟩ : ∃ x : Nat, x0 = (x : Int) := ⟨x0.toNat, by omega⟩
      have hx8 : x < 8 := by omega
      obtain ⟨ad2, rfl, d0⟩ := reads_int (HRj.out.kp.each _ (List.mem_of_getElem? HX.out.2.2)).1 hx
      have j0 : (0 : Int) ≤ (j : Int) := by omega
      have j1 : (j : Int) < (m : Int) := by omega
      have x0' : (0 : Int) ≤ (x : Int) := by omega
      have x1 : (x : Int) < 8 := by omega
      have xt : ((x : Int)).toNat = x := by omega
      have d1 : wr.cell? ⟨ba, x, none⟩ = some (.bool (B x)) := (HRj.out.ask.cell x).trans (askA_at B hx8)
      have hnext : is.take (j + 1) = is.take j ++ [(x : Int)] := by rw [List.take_add_one, hx]; rfl
      have HNX := Lib.hid (And.intro hnext (show NB (gsI gs) p x from ⟨is, HX.out.1, List.mem_of_getElem? hx⟩))
      clear hx hgood hnext
      cases hb : B x with
      | true =>
        rw [hb] at d1
        have HRn : Hid (Rnd (gsI gs) bl bm bf ba bk (some ad) N c gs H As n w (is.take (j + 1)) D' B n' wr) := Lib.hid (by
          rw [HNX.out.1]
          exact ⟨HRj.out.kp, HRj.out.map, HRj.out.rep, HRj.out.ask, no_skip HRj.out.no hb, HRj.out.cost, HRj.out.two⟩)
        clear hb HRj
        go_wp2_with fail
        go_roundw
        case rel => exact ⟨j + 1, D', B, n', by omega, by go_num, HRn⟩
        case measure => simp [intOf] <;> omega
      | false =>
        rw [hb] at d1
        have hxA := HRj.out.no.mono
        have hleft : leftN (put B x true) + 1 ≤ K := by have := left_put hx8 hb; have := left_mono hxA; have := HF.out.2.1; omega
        have d2 := HRj.out.ask.frozen x
        have S1 := HRj.out.kp.two HO.out (Two.set wr x (.bool true))
        have M1 := HRj.out.map.setCell (a := ⟨ba, x, none⟩) (show bm ≠ ba by have := HO.out.h2; have := HO.out.h3; omega) (.bool true)
        have K1 : Blk (wr.setCell ⟨ba, x, none⟩ (.bool true)) ba 69 (askA (put B x true)) := by rw [← askA_set B hx8]; exact HRj.out.ask.set_ x (.bool true)
        have HT1 := Lib.hid (HRj.out.two.trans (Two.set wr x (.bool true)))
        have HC1 := Lib.hid HRj.out.cost
        have HNo := Lib.hid HRj.out.no
        have HRep := Lib.hid HRj.out.rep
        have HB := Lib.hid hb
        have HL := Lib.hid hleft
        have HKEY := Lib.hid (key_of (show x < 256 by omega))
        have c2' : (wr.setCell ⟨ba, x, none⟩ (.bool true)).cell? ⟨bf, 0, none⟩ = some (.map (some bm)) := S1.atF.cell 0
        have HS1 := Lib.hid S1
        have HM1 := Lib.hid M1
        have HK1 := Lib.hid K1
        have HX8 := Lib.hid hx8
        have hhas := (HRep.out x).2
        clear hxA hleft HRj hb S1 M1 K1 hx8
        cases hh : H x with
        | none =>
          rw [hh] at hhas
          have hh' : Maps.has D' (keyL x) = false := hhas
          have HH := Lib.hid hh
          have HMX : Hid (n' < maxLen) := Lib.hid (by have := HC1.out; have := HF.out.2.2.1; simp only [maxLen]; omega)
          have HWF : Hid ((Lit.int .i64 (p : Int)).wf = true) := Lib.hid (WalkArith.wf_i64 (by have := HNs.out; omega))
          clear hhas hh
          go_wp2_with (first
            | (at_lookup; refine wpList_lookup_own_ok_int _ rfl _ _ 68 rfl 3 3 .i64 key_law Tryd.underlying68 Tryd.underlying3 (zero_int _) bm n' D' rfl HM1.out _ (keyL x) rfl HKEY.out ?_; intro cv hat _; clear hat)
            | (at_mapUpdate; refine wpList_mapUpdate_own _ rfl _ _ _ 68 rfl 3 3 key_law Tryd.underlying68 _ bm n' D' rfl HM1.out HMX.out _ _ (keyL x) rfl rfl HKEY.out (.lit (.int .i64 (p : Int))) [] (plainElem_int Tryd.underlying3 HWF.out) ?_; intro w5 own5 grow5))
          go_ret
          exact ⟨true, _, put H x (some p), put B x true, n' + 1, rfl, HT1.out.trans (Two.grown grow5), own5, rep_put HRep.out HM1.out.isMap x p, HK1.out.grown grow5 (fun e => by injection e with e; have := HO.out.h2; have := HO.out.h3; omega), by have := HC1.out; have := HL.out; simp; omega, fun _ => ok_free HF.out.2.2.2 HNo.out HB.out HNX.out.2 HH.out, fun h => (by cases h)⟩
        | some r =>
          rw [hh] at hhas
          have hh' : Maps.has D' (keyL x) = true := hhas
          have HH := Lib.hid hh
          have hrN : r < N := by
            obtain ⟨row', g1, _⟩ := HF.out.2.2.2.edge x r hh
            rw [← HLN.out]
            exact (List.getElem?_eq_some_iff.1 g1).1
          have HVI : Hid (natI H x = (r : Int)) := Lib.hid (by unfold natI; rw [hh]; rfl)
          have HC := Lib.hid (HIH.out r (put B x true) n' D' (wr.setCell ⟨ba, x, none⟩ (.bool true)) hrN HL.out HC1.out (pre_next HF.out.2.2.2 HNo.out HB.out hh) HS1.out HM1.out HRep.out HK1.out)
          have e1 : (wr.setCell ⟨ba, x, none⟩ (.bool true)).cell? ⟨bk, 0, none⟩ = some (takeClo bl ba bf bk) := HS1.out.atK.cell 0
          unfold takeClo at e1
          have HWF : Hid ((Lit.int .i64 (p : Int)).wf = true) := Lib.hid (WalkArith.wf_i64 (by have := HNs.out; omega))
          obtain ⟨row', HROW⟩ : ∃ row', Hid ((gsI gs)[r]? = some row') := by
            obtain ⟨row', g1, _⟩ := HF.out.2.2.2.edge x r hh
            exact ⟨row', Lib.hid g1⟩
          clear hhas hh hrN
          go_wp2_with (at_lookup; refine wpList_lookup_own_ok_int _ rfl _ _ 68 rfl 3 3 .i64 key_law Tryd.underlying68 Tryd.underlying3 (zero_int _) bm n' D' rfl HM1.out _ (keyL x) rfl HKEY.out ?_; intro cv hat _; obtain rfl : cv = (r : Int) := (rep_look HRep.out hat).trans HVI.out; clear hat)
          refine HC.out.mono ?_
          rintro e w4 ⟨b, D4, H4, A4, n4, rfl, t4, M4, R4, K4, hn4, hok, hno⟩
          have HS4 := Lib.hid (HS1.out.two HO.out t4)
          have HT4 := Lib.hid (HT1.out.trans t4)
          have HK4 := Lib.hid K4
          have HM4 := Lib.hid M4
          have HR4 := Lib.hid R4
          clear c2' e1 t4 K4 M4 R4 HC HS1 HK1
          cases b with
          | true =>
            have HOK := Lib.hid (ok_moved HF.out.2.2.2 HNo.out HB.out HNX.out.2 HH.out (hok rfl))
            have HN4 : Hid (n4 ≤ n + (K - 1) ∧ 1 ≤ K) := Lib.hid (by rw [if_pos rfl] at hn4; have := HC1.out; have := HL.out; omega)
            have HMX : Hid (n4 < maxLen) := Lib.hid (by have := HN4.out; have := HF.out.2.2.1; simp only [maxLen]; omega)
            have c4 : w4.cell? ⟨bf, 0, none⟩ = some (.map (some bm)) := HS4.out.atF.cell 0
            clear hn4 hok hno
            go_wp2_with (at_mapUpdate; refine wpList_mapUpdate_own _ rfl _ _ _ 68 rfl 3 3 key_law Tryd.underlying68 _ bm n4 D4 rfl HM4.out HMX.out _ _ (keyL x) rfl rfl HKEY.out (.lit (.int .i64 (p : Int))) [] (plainElem_int Tryd.underlying3 HWF.out) ?_; intro w5 own5 grow5)
            go_ret
            exact ⟨true, _, put H4 x (some p), A4, n4 + 1, rfl, HT4.out.trans (Two.grown grow5), own5, rep_put HR4.out HM4.out.isMap x p, HK4.out.grown grow5 (fun e => by injection e with e; have := HO.out.h2; have := HO.out.h3; omega), by have := HN4.out; simp; omega, fun _ => HOK.out, fun h => (by cases h)⟩
          | false =>
            obtain ⟨e4, row4, hrow4, hno4⟩ := hno rfl
            subst e4
            obtain rfl : row4 = row' := by have := HROW.out; rw [hrow4] at this; exact Option.some.inj this
            have HRn : Hid (Rnd (gsI gs) bl bm bf ba bk (some ad) N c gs H4 As n w (is.take (j + 1)) D4 A4 n4 w4) := Lib.hid (by
              rw [HNX.out.1]
              exact ⟨HS4.out, HM4.out, HR4.out, HK4.out, no_more HNo.out HH.out hrow4 hno4, by rw [if_neg (by simp)] at hn4; have := HC1.out; omega, HT4.out⟩)
            clear hn4 hok hno hrow4 hno4
            go_wp2
            go_roundw
            case rel => exact ⟨j + 1, D4, A4, n4, by omega, by go_num, HRn⟩
            case measure => simp [intOf] <;> omega
    · obtain rfl : j = m := by omega
      have HE : Hid (TakeSaid (gsI gs) bm ba K H As p n w (.returned (.bool false)) wr) := Lib.hid ⟨false, D', H, B, n', rfl, HRj.out.two, HRj.out.map, HRj.out.rep, HRj.out.ask, by have := HRj.out.cost; simp; omega, fun h => (by cases h), fun _ => ⟨rfl, is, HX.out.1, by
        have := HRj.out.no
        rwa [List.take_of_length_le (by rw [HX.out.2.1]; exact Nat.le_refl _)] at this⟩⟩
      clear HRj
      go_wp2
      go_ret
      exact HE.out
theorem take_any (o : Ord5 bl bm bf ba bk) (hG : RowsG (gsI gs)) : ∀ (K : Nat) (H : Nat → Option Nat) (As : Nat → Bool) (p n : Nat) (D : DataW Unit) (w : World), leftN As ≤ K → n + K ≤ 1000 → PreT (gsI gs) H As p → Kp bl bm bf ba bk A N c gs w → MapW w bm n D → Rep D H → Blk w ba 69 (askA As) → p < N →
    Calls Tryd.prog 38 (takeArgs bl ba bf bk p) w (TakeSaid (gsI gs) bm ba K H As p n w) := by
  intro K
  induction K with
  | zero => exact fun H As p n D w hK hk hP S hM hR hA hp => take_one bl bm bf ba bk A N c gs o hG 0 H As p n D w hK hk hP S hM hR hA hp (fun r B n1 D1 w1 _ h => by omega)
  | succ K ih => exact fun H As p n D w hK hk hP S hM hR hA hp => take_one bl bm bf ba bk A N c gs o hG (K + 1) H As p n D w hK hk hP S hM hR hA hp (fun r B n1 D1 w1 h1 h2 h3 h4 h5 h6 h7 h8 => ih H B r n1 D1 w1 (by omega) (by omega) h4 h5 h6 h7 h8 h1)
end

end Go.Proofs.YtkbgpmgnkegipaaDoor
