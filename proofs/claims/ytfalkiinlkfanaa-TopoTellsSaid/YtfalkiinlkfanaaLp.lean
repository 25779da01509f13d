/-
  The library's stable sort of at most 8 numbers, by a closure. No statement is proved here.
-/
import Derived.Test.YtfalkiinlkfanaaLo
namespace Go.Proofs.Ytfalkiinlkfanaa
open Go.RowKit

section
variable {w w' : World} {ad : Addr} {n : Nat} {xs : List Int}
theorem Row.below (h : Row w ad n xs) (hb : Below w.heap.size w w') : Row w' ad n xs :=
  ⟨Nat.lt_of_lt_of_le h.1 hb.size, h.2.1, fun k x hx => by
    obtain ⟨h1, h2⟩ := h.2.2 k x hx
    have hl : (ad.add k).block < w.heap.size := by rw [block_of_add]; exact h.1
    refine ⟨(hb.cell hl).trans h1, ?_⟩
    have := hb.block _ hl
    unfold World.frozen? at h2 ⊢
    rw [this]
    exact h2⟩
theorem Row.drew (h : Row w ad n xs) : Row w.drew ad n xs := h
theorem Row.set {i : Nat} {u : Int} (hinj : ∀ i j, ad.add i = ad.add j → i = j) (h : Row w ad n xs) : Row (w.setCell (ad.add i) (.int .i64 u)) ad n (xs.set i u) := by
  refine ⟨by simpa [World.setCell] using h.1, by simpa using h.2.1, fun k x hx => ?_⟩
  rw [World.frozen?_setCell]
  rw [List.getElem?_set] at hx
  by_cases hk : i = k
  · subst hk
    rw [if_pos rfl] at hx
    split at hx
    · rename_i hl
      obtain rfl := Option.some.inj hx
      obtain ⟨h1, h2⟩ := h.2.2 i _ (List.getElem?_eq_getElem hl)
      exact ⟨World.cell?_setCell_same' _ _ _ (by rw [h1]; rfl), h2⟩
    · cases hx
  · rw [if_neg hk] at hx
    obtain ⟨h1, h2⟩ := h.2.2 k x hx
    exact ⟨(World.cell?_setCell_other _ _ _ _ (fun e => hk (by first | exact hinj _ _ e | exact (hinj _ _ e).symm))).trans h1, h2⟩
end
theorem set_swap {P R : List Int} {p x : Int} {j : Nat} (hl : P.length = j) : ((P ++ p :: x :: R).set (j + 1) p).set j x = P ++ x :: p :: R := by
  subst hl
  rw [List.set_append_right _ _ (by omega), show P.length + 1 - P.length = 1 by omega]
  rw [List.set_append_right _ _ (by omega), Nat.sub_self]
  rfl
theorem at_first {P R : List Int} {p x : Int} {j : Nat} (hl : P.length = j) : (P ++ p :: x :: R)[j]? = some p ∧ (P ++ p :: x :: R)[j + 1]? = some x := by
  subst hl
  rw [List.getElem?_append_right (Nat.le_refl _), List.getElem?_append_right (by omega), Nat.sub_self, show P.length + 1 - P.length = 1 by omega]
  exact ⟨rfl, rfl⟩
theorem swap_all {P R : List Int} {p x : Int} {V : Int → Prop} (h : ∀ y ∈ P ++ p :: x :: R, V y) : (∀ y ∈ P ++ x :: p :: R, V y) ∧ V p ∧ V x := by
  refine ⟨fun y hy => h y ?_, h p (by simp), h x (by simp)⟩
  simp at hy ⊢
  rcases hy with h | h | h | h
  · exact .inl h
  · exact .inr (.inr (.inl h))
  · exact .inr (.inl h)
  · exact .inr (.inr (.inr h))

set_option maxRecDepth 100000 in
set_option maxHeartbeats 8000000 in
theorem insertion_any (Bt Bc B : Nat) (key : Int → Int) (V : Int → Prop) (ad : Addr) (n cap : Nat) (o : List Int) (w0 w : World)
    (hinj : ∀ i j, ad.add i = ad.add j → i = j) (hB : B ≤ ad.block) (hW : Below B w0 w)
    (HC : ∀ x y : Int, V x → V y → ∀ u, Below B w0 u → Calls Try.prog 54 #[.int .i64 x, .int .i64 y, .pointer (some ⟨Bt, 0, none⟩), .pointer (some ⟨Bc, 0, none⟩)] u (Said (.int .i64 (cmpN (key x) (key y))) u))
    (hV : ∀ x ∈ o, V x) (hR : Row w ad n o) (h1 : 1 ≤ n) (h8 : n ≤ 8) :
    Calls Try.prog 73 #[.slice (some ad) n cap, .int .i64 0, .int .i64 (n : Int), .func (.func 54) #[] #[.pointer (some ⟨Bt, 0, none⟩), .pointer (some ⟨Bc, 0, none⟩)]] w
      fun e w' => e = .returned (.tuple #[]) ∧ (∃ T, Rep key T o ∧ Row w' ad n T) ∧ Below B w0 w' := by
  have HI := Lib.hid hinj
  have HCC := Lib.hid HC
  have HL : Hid (o.length = n) := Lib.hid hR.2.1
  have HS : Hid (OutW key o 1 o) := Lib.hid (out_start (by rw [hR.2.1]; exact h1))
  have HR := Lib.hid hR
  have HV := Lib.hid hV
  clear hinj HC hR hV
  go_enter Try.func73, Try.ntmps73
  go_wp2
  go_loopw [8] (fun v wr => ∃ (i : Nat) (xs : List Int), v = .int .i64 (i : Int) ∧ 1 ≤ i ∧ i ≤ n ∧ Hid (OutW key o i xs) ∧ Hid (∀ x ∈ xs, V x) ∧ Hid (Row wr ad n xs) ∧ Below B w0 wr) (fun v _ => n - (intOf v).toNat)
  case atStart => exact ⟨1, o, by go_num, by omega, h1, Lib.hid HS.out, Lib.hid HV.out, Lib.hid HR.out, hW⟩
  case round =>
    obtain ⟨i, xs, rfl, hi1, hin, HO, HX, HRo, hBe⟩ := hrel
    by_cases hlt : i < n
    · have HIn : Hid (InW key o i i xs) := Lib.hid (in_start HO.out (by rw [HL.out]; exact hlt))
      go_wp2
      go_loopw [9] (fun v wr => ∃ (j : Nat) (xs : List Int), v = .int .i64 (j : Int) ∧ j ≤ i ∧ Hid (InW key o i j xs) ∧ Hid (∀ x ∈ xs, V x) ∧ Hid (Row wr ad n xs) ∧ Below B w0 wr) (fun v _ => (intOf v).toNat)
      case atStart => exact ⟨i, xs, rfl, Nat.le_refl _, HIn, HX, HRo, hBe⟩
      case round =>
        clear HIn HX HRo hBe HO
        obtain ⟨j, xs, rfl, hji, HIn, HX, HRo, hBe⟩ := hrel
        rcases Nat.eq_zero_or_pos j with rfl | hj0
        · have HO : Hid (OutW key o (i + 1) xs) := Lib.hid (in_bottom HIn.out)
          go_wp2_with fail
          go_big_region
          all_goals go_wp2
          go_roundw
          case rel => exact ⟨i + 1, xs, by go_num, by omega, by omega, HO, HX, Lib.hid HRo.out.drew, hBe.drew⟩
          case measure => simp [intOf] <;> omega
        · obtain ⟨jp, rfl⟩ : ∃ jp, j = jp + 1 := ⟨j - 1, by omega⟩
          obtain ⟨P, p, x, R, hxs, hP, hyes, hno⟩ := in_parts HIn.out
          obtain ⟨hx1, hx2⟩ := at_first (P := P) (R := R) (p := p) (x := x) hP
          rw [← hxs] at hx1 hx2
          obtain ⟨c1, f1⟩ := HRo.out.2.2 jp p hx1
          obtain ⟨c2, f2⟩ := HRo.out.2.2 (jp + 1) x hx2
          obtain ⟨hV2, vp, vx⟩ := swap_all (V := V) (P := P) (R := R) (p := p) (x := x) (by rw [← hxs]; exact HX.out)
          have HV2 := Lib.hid hV2
          have HY := Lib.hid hyes
          have HN := Lib.hid hno
          have HE := Lib.hid (And.intro hxs hP)
          have HCm := Lib.hid (HCC.out x p vx vp)
          have hwp : IntKind.i64.wrap (jp : Int) = (jp : Int) := by rw [IntKind.wrap_i64]; omega
          have jz : (jp : Int) + 1 < (n : Int) := by omega
          have jz1 : (jp : Int) < (n : Int) := by omega
          have p0 : (0 : Int) ≤ (jp : Int) + 1 := by omega
          have p1 : (0 : Int) < (jp : Int) + 1 := by omega
          have p2 : decide ((0 : Int) < (jp : Int) + 1) = true := decide_eq_true p1
          have e0 : ((jp : Int) + 1).toNat = jp + 1 := by omega
          have l1 : (ad.add jp).block < wr.heap.size := by rw [block_of_add]; exact HRo.out.1
          have l2 : (ad.add (jp + 1)).block < wr.heap.size := by rw [block_of_add]; exact HRo.out.1
          obtain ⟨j1, hj1⟩ : ∃ j1, j1 = jp + 1 := ⟨_, rfl⟩
          rw [← hj1] at c2 f2 l2 e0
          have HLB := Lib.hid (fun u (h : Below wr.heap.size wr u) => show u.cell? (ad.add jp) = some (.int .i64 p) ∧ u.cell? (ad.add j1) = some (.int .i64 x) from ⟨(h.cell l1).trans c1, (h.cell l2).trans c2⟩)
          have B0 := Below.refl wr.heap.size wr
          have HJ := Lib.hid hj1
          clear hj1 hx1 hx2 hxs hP hyes hno hV2 vp vx c1 c2 f1 f2 l1 l2
          cases hlv : decide (key x < key p) with
          | true =>
            have hlt2 : decide (cmpN (key x) (key p) < 0) = true := by rw [cmpN_lt]; exact hlv
            have HIN : Hid (InW key o i jp (P ++ x :: p :: R)) := Lib.hid (HY.out (of_decide_eq_true hlv))
            generalize cmpN (key x) (key p) = z at *
            clear hlv
            go_upto_region 4 with fail
            have D1 := B0.drew
            have k1 := HLB.out _ D1
            clear B0
            go_region_held3 (fun w' => w'.cell? (ad.add jp) = some (.int .i64 p) ∧ w'.cell? (ad.add j1) = some (.int .i64 x))
              (first | exact k2 | exact k1)
              (first
                | (go_at_call 54; (with_reducible refine (HCm.out _ hBe.drew).mono ?_); rintro e w3 ⟨rfl, h3⟩; have D2 := D1.trans (h3.mono D1.size); have k2 := HLB.out _ D2; clear h3))
            have R3 := HRo.out.below D2
            have b3 : Below B w0 w3 := hBe.trans (D2.mono (Nat.le_trans hB (Nat.le_of_lt HRo.out.1)))
            obtain ⟨c1, f1⟩ := R3.2.2 jp p (by rw [HE.out.1]; exact (at_first HE.out.2).1)
            obtain ⟨c2, f2⟩ := R3.2.2 j1 x (by rw [HE.out.1, HJ.out]; exact (at_first HE.out.2).2)
            have R4 : Row _ ad n _ := R3.set (i := j1) (u := p) HI.out
            have R5 : Row _ ad n _ := R4.set (i := jp) (u := x) HI.out
            obtain ⟨c3, f3⟩ := R4.2.2 jp p (by rw [HE.out.1, HJ.out, List.getElem?_set_ne (by omega)]; exact (at_first HE.out.2).1)
            have HR5 := Lib.hid (show Row ((w3.setCell (ad.add j1) (.int .i64 p)).setCell (ad.add jp) (.int .i64 x)).drew ad n (P ++ x :: p :: R) by
              have h5 := R5.drew
              rw [HE.out.1, HJ.out, set_swap HE.out.2] at h5
              rw [HJ.out]
              exact h5)
            have HB5 : Hid (Below B w0 ((w3.setCell (ad.add j1) (.int .i64 p)).setCell (ad.add jp) (.int .i64 x)).drew) := Lib.hid ((b3.setCell (p := ad.add j1) (by rw [block_of_add]; exact hB) _).setCell (p := ad.add jp) (by rw [block_of_add]; exact hB) _).drew
            clear D1 D2 k1 k2 R3 R4 R5 b3 HLB
            go_wp2_with fail
            go_big_region
            all_goals
              generalize ((w3.setCell (ad.add j1) (.int .i64 p)).setCell (ad.add jp) (.int .i64 x)).drew = w4 at HR5 HB5 ⊢
              clear c1 c2 c3 f1 f2 f3
              go_wp2
              go_roundw
              case rel => exact ⟨jp, P ++ x :: p :: R, by go_num, by omega, HIN, HV2, HR5, HB5.out⟩
              case measure => simp [intOf] <;> omega
          | false =>
            have hlt2 : decide (cmpN (key x) (key p) < 0) = false := by rw [cmpN_lt]; exact hlv
            have HOUT : Hid (OutW key o (i + 1) xs) := Lib.hid (HN.out (of_decide_eq_false hlv))
            generalize cmpN (key x) (key p) = z at *
            clear hlv
            go_upto_region 4 with fail
            have D1 := B0.drew
            have k1 := HLB.out _ D1
            clear B0
            go_region_held3 (fun w' => w'.cell? (ad.add jp) = some (.int .i64 p) ∧ w'.cell? (ad.add j1) = some (.int .i64 x))
              (first | exact k2 | exact k1)
              (first
                | (go_at_call 54; (with_reducible refine (HCm.out _ hBe.drew).mono ?_); rintro e w3 ⟨rfl, h3⟩; have D2 := D1.trans (h3.mono D1.size); have k2 := HLB.out _ D2; clear h3))
            have HR3 := Lib.hid (HRo.out.below D2)
            have b3 : Below B w0 w3 := hBe.trans (D2.mono (Nat.le_trans hB (Nat.le_of_lt HRo.out.1)))
            clear D1 D2 k1 k2 HLB
            go_wp2
            go_roundw
            case rel => exact ⟨i + 1, xs, by go_num, by omega, by omega, HOUT, HX, HR3, b3⟩
            case measure => simp [intOf] <;> omega
    · obtain rfl : i = n := by omega
      go_wp2
      go_end0
      exact ⟨rfl, ⟨xs, out_end HO.out (by rw [HL.out]; exact Nat.le_refl _), HRo.out⟩, hBe⟩

set_option maxRecDepth 100000 in
set_option maxHeartbeats 1000000 in
theorem insertion_none (A : Option Addr) (cap : Nat) (fv : Value) (w : World) :
    Calls Try.prog 73 #[.slice A 0 cap, .int .i64 0, .int .i64 (0 : Nat), fv] w fun e w' => e = .returned (.tuple #[]) ∧ w = w' := by
  go_enter Try.func73, Try.ntmps73
  go_wp2
  go_loopw [8] (fun v wr => v = .int .i64 1 ∧ wr = w) (fun _ _ => 0)
  case atStart => exact ⟨by go_num, rfl⟩
  case round =>
    obtain ⟨rfl, rfl⟩ := hrel
    go_wp2
    go_end0
    exact ⟨rfl, rfl⟩

set_option maxRecDepth 100000 in
set_option maxHeartbeats 1000000 in
theorem stable_any (A : Option Addr) (n cap : Nat) (hf : Nat) (caps : Array Value) (w : World) (G : World → Prop) (h8 : n ≤ 8)
    (hi : Calls Try.prog 73 #[.slice A n cap, .int .i64 0, .int .i64 (n : Int), .func (.func hf) #[] caps] w fun e w' => e = .returned (.tuple #[]) ∧ G w') :
    Calls Try.prog 67 #[.slice A n cap, .int .i64 (n : Int), .func (.func hf) #[] caps] w fun e w' => e = .returned (.tuple #[]) ∧ G w' := by
  have HI := Lib.hid hi
  have g1 : ¬ (20 : Int) ≤ (n : Int) := by omega
  have g2 : ¬ (20 : Int) < (n : Int) := by omega
  clear hi h8
  go_enter Try.func67, Try.ntmps67
  go_wp2
  go_loopw [7, 8] (fun a b wr => a = .int .i64 0 ∧ b = .int .i64 20 ∧ wr = w) (fun _ _ _ => 0)
  case atStart => exact ⟨rfl, rfl, rfl⟩
  case round =>
    obtain ⟨rfl, rfl, rfl⟩ := hrel
    go_wp2_with fail
    refine HI.out.mono ?_
    rintro e w2 ⟨rfl, hG⟩
    have HG := Lib.hid hG
    clear hG
    go_wp2
    go_loopw [6] (fun a wr => a = .int .i64 20 ∧ wr = w2) (fun _ _ => 0)
    case atStart => exact ⟨rfl, rfl⟩
    case round =>
      obtain ⟨rfl, rfl⟩ := hrel
      go_wp2
      go_end0
      exact ⟨rfl, HG.out⟩

set_option maxRecDepth 100000 in
set_option maxHeartbeats 1000000 in
theorem sort_any (A : Option Addr) (n cap : Nat) (hf : Nat) (caps : Array Value) (w : World) (G : World → Prop) (h8 : n ≤ 8)
    (hi : Calls Try.prog 73 #[.slice A n cap, .int .i64 0, .int .i64 (n : Int), .func (.func hf) #[] caps] w fun e w' => e = .returned (.tuple #[]) ∧ G w') :
    Calls Try.prog 53 #[.slice A n cap, .func (.func hf) #[] caps] w fun e w' => e = .returned (.tuple #[]) ∧ G w' := by
  have HI := Lib.hid (stable_any A n cap hf caps w G h8 hi)
  clear hi h8
  go_enter Try.func53, Try.ntmps53
  go_wp2_with fail
  refine HI.out.mono ?_
  rintro e w2 ⟨rfl, hG⟩
  go_wp2
  go_end0
  exact ⟨rfl, hG⟩

end Go.Proofs.Ytfalkiinlkfanaa
