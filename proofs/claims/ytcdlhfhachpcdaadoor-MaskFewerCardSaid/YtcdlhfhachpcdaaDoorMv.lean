/-
  The landed mask: choose. No statement is proved here.
-/
import Derived.Test.YtcdlhfhachpcdaaDoorMu
import Derived.WalkMore
namespace Go.Proofs.YtcdlhfhachpcdaaDoor
open Go.RowKit Go.Maps

/-- a call answers a row of numbers, and whether there is one -/
def ListsC (w : World) (l : List Int) (b : Bool) (e : Ending) (w' : World) : Prop :=
  ∃ A n c, e = .returned (.tuple #[.slice A n c, .bool b]) ∧ n = l.length ∧ n ≤ c ∧ Reads w' w'.heap.size 1 A n (vs l) ∧ Below w.heap.size w w'
/-- a round's state -/
structure Road (H : List Nat) (s : Nat) (F : Nat → Option Int) (w : World) (bm base n : Nat) (D : DataW Unit) (j t : Nat) (T : List Nat) (ch : Value) (wr : World) : Prop where
  le : j ≤ H.length
  pop : popN t + j = popN s
  fits : fitsN (H.drop j) t = true
  next : j < H.length → ∃ c : Nat, F t = some (c : Int)
  done : firstL H s = T ++ firstL (H.drop j) t
  len : T.length = j
  small : t < 256
  row : wr.ownsRow base 3 1 ch j (vs (ints T))
  map : MapW wr bm n D
  below : Below w.heap.size w wr
  above : base ≤ wr.heap.size
theorem ints_snoc (T : List Nat) (c : Nat) : vs (ints (T ++ [c])) = vs (ints T) ++ [.int .i64 (c : Int)] := by simp [vs, ints]
theorem Road.step {H : List Nat} {s : Nat} {F : Nat → Option Int} {w : World} {bm base n : Nat} {D : DataW Unit} {j t : Nat} {T : List Nat} {ch : Value} {wr : World} (h : Road H s F w bm base n D j t T ch wr) (hG : Good H (popN s) (popN s + 1) F) (hj : j < H.length) :
    ∃ c : Nat, F t = some (c : Int) ∧ c < 8 ∧ t.testBit c = true ∧ ∀ (v' : Value) (w4 : World) (o : Obj), w4.ownsRow base 3 1 v' (j + 1) (vs (ints T) ++ [.int .i64 (c : Int)]) → (wr.alloc o).grownBy w4 ch.ownBlock → bm < base → w.heap.size ≤ base → Road H s F w bm base n D (j + 1) (t - 2 ^ c) (T ++ [c]) v' w4 := by
  obtain ⟨c, hc⟩ := h.next hj
  have hd : H.drop j = H[j] :: H.drop (j + 1) := List.drop_eq_getElem_cons hj
  have hf := h.fits
  rw [hd] at hf
  obtain ⟨c2, e, hfc, h8, hb, hp, hfit, hn⟩ := road_step hG h.pop hd rfl hc hf
  have e : c = c2 := by omega
  subst e
  refine ⟨c, hc, h8, hb, fun v' w4 o own4 hg hbm hw => ⟨by omega, by omega, hfit, hn, ?_, by rw [List.length_append, h.len]; rfl, Nat.lt_of_le_of_lt (Nat.sub_le _ _) h.small, by rw [ints_snoc]; exact own4, ?_, ?_, ?_⟩⟩
  · rw [h.done, hd]
    show T ++ (match firstC H[j] (H.drop (j + 1)) t with | none => [] | some c => c :: firstL (H.drop (j + 1)) (t - 2 ^ c)) = _
    rw [hfc]
    simp
  · exact (h.map.alloc o).kept hg (fun e => by have := (h.row.lt bm e.symm).1; omega)
  · exact (h.below.alloc h.below.size o).grown hg (by have := h.below.size; simp; omega) (fun k hk => by have := (h.row.lt k hk).1; omega)
  · have h1 := h.above
    have h2 := hg.size
    simp at h2
    omega

set_option maxRecDepth 100000 in
set_option maxHeartbeats 4000000 in
theorem choose_yes (A : Option Addr) (n c : Nat) (l : List (Int × Int)) (s : Nat) (w : World) (hR : Reads w w.heap.size 2 A n (mvs l)) (hD : Db w) (hAll : ∀ (k : Nat) (m : Int × Int), l[k]? = some m → rightM m = true) (hU : ∀ (k : Nat) (m : Int × Int), l[k]? = some m → UM m) (h100 : n ≤ 100) (h8 : s < 256) (hf : fitsN (hards l) s = true) :
    Calls Tryd.prog 34 #[.slice A n c, .int .u32 (s : Int)] w (ListsC w (ints (firstL (hards l) s)) true) := by
  obtain ⟨i0, hi, hz0, hz1, hz2⟩ := info_parts int_info
  have HS := Lib.hid (search_any A n c l s w hR hD hAll hU h100 h8)
  have HH := Lib.hid (show (hards l).length ≤ 100 by rw [length_hards, masks_len hR]; exact h100)
  have HF := Lib.hid hf
  have H8 := Lib.hid h8
  generalize hards l = H at *
  clear hR hD hAll hU h100 h8 hf
  go_enter Tryd.func34, Tryd.ntmps34
  go_wp2_with fail
  go_step3
  go_wp2_with fail
  refine HS.out.mono ?_
  rintro e w1 ⟨bm, D, F, n1, rfl, hbm, M1, R1, G1, B1, hv1⟩
  have HR0 : Hid (Road H s F w bm w1.heap.size n1 D 0 s [] (.slice none 0 0) w1) := Lib.hid ⟨Nat.zero_le _, rfl, HF.out, fun h => by obtain ⟨v, h1, h2⟩ := hv1 h; obtain ⟨c, rfl⟩ := h2 HF.out; exact ⟨c, h1⟩, rfl, rfl, H8.out, World.ownsRow_nil _ _ _ _, M1, B1, Nat.le_refl _⟩
  have HG := Lib.hid (show Rep D F ∧ Good H (popN s) (popN s + 1) F ∧ bm < w1.heap.size ∧ w.heap.size ≤ w1.heap.size from ⟨R1, G1, M1.lt, B1.size⟩)
  clear M1 R1 G1 B1 hv1 hbm HS
  generalize w1.heap.size = base at *
  go_wp2_with fail
  go_step3
  go_wp2_with fail
  go_loopw [1, 6] (fun fr ch wr => ∃ (j t : Nat) (T : List Nat), fr = .int .u32 (t : Int) ∧ Hid (Road H s F w bm base n1 D j t T ch wr)) (fun fr _ _ => (intOf fr).toNat)
  case atStart => exact ⟨0, s, [], rfl, HR0⟩
  case round =>
    clear HR0
    obtain ⟨j, t, T, rfl, HRj⟩ := hrel
    have HKEY := Lib.hid (key_of HRj.out.small)
    have HM := Lib.hid HRj.out.map
    by_cases hj : j < H.length
    · obtain ⟨x, hx, x8, hxb, hstep⟩ := HRj.out.step HG.out.2.1 hj
      have hh : Maps.has D (keyL t) = true := by rw [(HG.out.1 t).2, hx]; rfl
      have HV := Lib.hid (show (F t).getD 0 = (x : Int) by rw [hx]; rfl)
      have HW := Lib.hid (fun (u : World) => out_any (t : Int) (x : Int) u (by omega) (by have := HRj.out.small; omega))
      rw [out_nat HRj.out.small x8 hxb] at HW
      have hx1 : ((x : Int) == -1) = false := by simp <;> omega
      have HStep := Lib.hid hstep
      have HRow := Lib.hid HRj.out.row
      have HX := Lib.hid (show x < 8 ∧ t.testBit x = true ∧ j < 100 ∧ base ≤ wr.heap.size from ⟨x8, hxb, by have := HH.out; omega, HRj.out.above⟩)
      clear hx x8 hxb hstep hj
      go_wp2_with (first
        | (at_lookup; refine wpList_lookup_own_ok_int _ rfl _ _ 66 rfl 23 3 .i64 key_law Tryd.underlying66 Tryd.underlying3 (zero_int _) bm n1 D rfl HM.out _ (keyL t) rfl HKEY.out ?_; intro cv hat _; obtain rfl : cv = (x : Int) := (rep_look HG.out.1 hat).trans HV.out; clear hat)
        | (at_builtin; refine wpList_append_own _ rfl _ _ 38 rfl base 3 i0 (.int .i64 0) 1 8 Tryd.underlying38 hi hz0 hz1 hz2 rfl (by decide) _ _ _ rfl (HRow.out.alloc _) ⟨wr.heap.size, 0, none⟩ 1 1 [.int .i64 (x : Int)] rfl rfl (cell_one_new _ _ _) (by simp [Value.oneCell']) (by have := HX.out.2.2.1; simp only [maxLen]; omega) (by have := HX.out.2.2.1; omega) (by have := HX.out.2.2.2; simp; omega) ?_; intro v4 w4 own4 hgrow _; have HN := Lib.hid (HStep.out v4 w4 _ own4 hgrow HG.out.2.2.1 HG.out.2.2.2); clear own4 hgrow))
      refine (HW.out _).mono ?_
      rintro e w5 ⟨rfl, rfl⟩
      go_wp2
      go_roundw
      case rel => exact ⟨j + 1, _, _, rfl, HN⟩
      case measure =>
        have hle : 2 ^ x ≤ t := Nat.ge_two_pow_of_testBit HX.out.2.1
        have hp := Nat.two_pow_pos x
        show ((t - 2 ^ x : Nat) : Int).toNat < ((t : Nat) : Int).toNat
        omega
    · have hn : F t = none := road_end HG.out.2.1 HRj.out.pop (by omega)
      have hh : Maps.has D (keyL t) = false := by rw [(HG.out.1 t).2, hn]; rfl
      have hjl : H.length = j := by have := HRj.out.le; omega
      have hT : T = firstL H s := by have := HRj.out.done; rw [← hjl, List.drop_length] at this; rw [this]; simp [firstL]
      obtain ⟨A3, c3, rfl, hc3, hr3⟩ := own_reads HRj.out.row
      have HE : Hid (ListsC w (ints (firstL H s)) true (.returned (.tuple #[.slice A3 j c3, .bool true])) wr) := Lib.hid ⟨A3, j, c3, rfl, by rw [length_ints, ← hT, HRj.out.len], hc3, by rw [← hT]; exact hr3, HRj.out.below⟩
      clear hn hj hjl hT hr3 hc3
      go_wp2_with (at_lookup; refine wpList_lookup_own_ok_int _ rfl _ _ 66 rfl 23 3 .i64 key_law Tryd.underlying66 Tryd.underlying3 (zero_int _) bm n1 D rfl HM.out _ (keyL t) rfl HKEY.out ?_; intro cv hat _; clear hat)
      go_ret2
      exact HE.out

set_option maxRecDepth 100000 in
set_option maxHeartbeats 4000000 in
theorem choose_no (A : Option Addr) (n c : Nat) (l : List (Int × Int)) (s : Nat) (w : World) (hR : Reads w w.heap.size 2 A n (mvs l)) (hD : Db w) (hAll : ∀ (k : Nat) (m : Int × Int), l[k]? = some m → rightM m = true) (hU : ∀ (k : Nat) (m : Int × Int), l[k]? = some m → UM m) (h100 : n ≤ 100) (h8 : s < 256) (hf : fitsN (hards l) s = false) :
    Calls Tryd.prog 34 #[.slice A n c, .int .u32 (s : Int)] w (ListsC w [] false) := by
  have HS := Lib.hid (search_any A n c l s w hR hD hAll hU h100 h8)
  have HF := Lib.hid hf
  have H8 := Lib.hid h8
  generalize hards l = H at *
  clear hR hD hAll hU h100 h8 hf
  go_enter Tryd.func34, Tryd.ntmps34
  go_wp2_with fail
  go_step3
  go_wp2_with fail
  refine HS.out.mono ?_
  rintro e w1 ⟨bm, D, F, n1, rfl, hbm, M1, R1, G1, B1, hv1⟩
  have hv : F s = some (-1) := by
    cases H with
    | nil => have := HF.out; simp [fitsN, mostN] at this
    | cons h t =>
      obtain ⟨v, h1, _⟩ := hv1 (by simp)
      rcases good_memo (p := 0) G1 rfl (by omega) rfl h1 with ⟨rfl, _⟩ | ⟨_, _, h2, _⟩
      · exact h1
      · rw [HF.out] at h2; cases h2
  have hh : Maps.has D (keyL s) = true := by rw [(R1 s).2, hv]; rfl
  have HV := Lib.hid (show (F s).getD 0 = -1 by rw [hv]; rfl)
  have HR := Lib.hid R1
  have HM := Lib.hid M1
  have HKEY := Lib.hid (key_of H8.out)
  have HE : Hid (ListsC w [] false (.returned (.tuple #[.slice none 0 0, .bool false])) w1) := Lib.hid ⟨none, 0, 0, rfl, rfl, Nat.le_refl _, Reads.none_, B1⟩
  clear M1 R1 G1 B1 hv1 hbm HS hv
  go_wp2_with fail
  go_step3
  go_wp2_with fail
  go_loopw [1, 6] (fun fr ch wr => fr = .int .u32 (s : Int) ∧ ch = .slice none 0 0 ∧ wr = w1) (fun fr _ _ => (intOf fr).toNat)
  case atStart => exact ⟨rfl, rfl, rfl⟩
  case round =>
    obtain ⟨rfl, rfl, rfl⟩ := hrel
    go_wp2_with (at_lookup; refine wpList_lookup_own_ok_int _ rfl _ _ 66 rfl 23 3 .i64 key_law Tryd.underlying66 Tryd.underlying3 (zero_int _) bm n1 D rfl HM.out _ (keyL s) rfl HKEY.out ?_; intro cv hat _; obtain rfl : cv = -1 := (rep_look HR.out hat).trans HV.out; clear hat)
    go_ret2
    exact HE.out

end Go.Proofs.YtcdlhfhachpcdaaDoor
