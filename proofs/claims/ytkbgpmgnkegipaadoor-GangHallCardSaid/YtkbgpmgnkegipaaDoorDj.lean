/-
  GangRoom's walk. No statement is proved here.
-/
import Derived.Test.YtkbgpmgnkegipaaDoorDf
import Derived.Test.YtkbgpmgnkegipaaDoorDh
import Derived.Test.YtkbgpmgnkegipaaDoorDi
import Derived.Test.YtkbgpmgnkegipaaDoorGp
namespace Go.Proofs.YtkbgpmgnkegipaaDoor
open Go.RowKit Go.Maps

theorem cpus_info : (Tryd.prog.info? 31).map (fun i => (i.zero, i.size, i.bytes)) = some (some (.int .u32 0), 1, 4) := by kernel_rfl
/-- sets as they came in -/
structure SA (w : World) (x : Gg) : Prop where
  row : Reads w w.heap.size 1 x.1 x.2.1 (us x.2.2.2)
  cap : x.2.1 ≤ x.2.2.1
  rng : ∀ s ∈ x.2.2.2, 0 ≤ s ∧ s < 4294967296
theorem SA.below {w w' : World} {x : Gg} (h : SA w x) (hb : Below w.heap.size w w') : SA w' x := ⟨(h.row.below hb).more hb.size, h.cap, h.rng⟩
structure RA (w : World) (A : Option Addr) (n : Nat) (l : List Gg) : Prop where
  row : Reads w w.heap.size 1 A n (flat gv l)
  big : n ≤ maxLen
  mem : ∀ x ∈ l, SA w x
theorem RA.len {w : World} {A : Option Addr} {n : Nat} {l : List Gg} (h : RA w A n l) : l.length = n := by
  have h1 := h.row.1
  rw [length_flat gv length_gv] at h1
  omega
theorem RA.below {w w' : World} {A : Option Addr} {n : Nat} {l : List Gg} (h : RA w A n l) (hb : Below w.heap.size w w') : RA w' A n l := ⟨(h.row.below hb).more hb.size, h.big, fun x hx => (h.mem x hx).below hb⟩
theorem RA.at_ {w : World} {A : Option Addr} {n : Nat} {l : List Gg} (h : RA w A n l) {k : Nat} {x : Gg} (hx : l[k]? = some x) : ∃ ad, A = some ad ∧ w.cell? (ad.add k) = some (.slice x.1 x.2.1 x.2.2.1) := by
  obtain ⟨ad, e, _, hc⟩ := h.row.elem gv length_gv hx (by omega)
  have := hc 0 _ rfl
  rw [Nat.add_zero, Nat.mul_one] at this
  exact ⟨ad, e, this⟩
theorem cut_us {w : World} {B n : Nat} {A : Option Addr} {l : List Int} (h : Reads w B 1 A n (us l)) (m : Nat) : Reads w B 1 A (min n m) (us (l.take m)) := by
  have h1 := h.1
  rw [length_us] at h1
  refine ⟨by rw [length_us, List.length_take]; omega, fun h0 => ?_⟩
  obtain ⟨ad, e, hb, hc⟩ := h.2 (by omega)
  refine ⟨ad, e, hb, fun j v hj => hc j v ?_⟩
  unfold us at hj ⊢
  rw [List.map_take] at hj
  have hl := (List.getElem?_eq_some_iff.1 hj).1
  rw [List.length_take] at hl
  rwa [List.getElem?_take_of_lt (by omega)] at hj

set_option maxRecDepth 100000 in
set_option maxHeartbeats 16000000 in
theorem room_walk (A : Option Addr) (n c : Nat) (l : List Gg) (w : World) (hA : RA w A n l) (hD : Db w) : Calls Tryd.prog 3 #[.slice A n c] w (Said (.bool true) w) := by
  obtain ⟨ji, hi1, hy0, hy1, hy2⟩ := info_parts9 cpus_info
  have HA := Lib.hid hA
  have HL := Lib.hid hA.len
  have HW := Lib.hid (wakes_any w)
  have HDB := Lib.hid hD
  have HDL := Lib.hid hD.lt
  have hn2 : n ≤ 9223372036854775807 := by have := hA.big; unfold maxLen at this; omega
  clear hA hD
  go_enter Tryd.func3, Tryd.ntmps3
  go_wp2_with fail
  refine HW.out.mono ?_
  rintro e w0 ⟨rfl, h0⟩
  have HB0 := Lib.hid h0
  clear h0
  go_wp2_with fail
  go_loopw [10] (fun iv wr => ∃ k : Nat, k ≤ n ∧ k ≤ 6 ∧ iv = .int .i64 (k : Int) ∧ Hid (Below w.heap.size w wr)) (fun iv _ => n - (intOf iv).toNat)
  case atStart => exact ⟨0, by omega, by omega, rfl, HB0⟩
  case round =>
    clear HB0
    obtain ⟨k, hk, hk6, rfl, HB⟩ := hrel
    by_cases hlt : k < n
    · obtain ⟨⟨A2, m, c2, ss⟩, hx⟩ := elem_at (l := l) (k := k) (by rw [HL.out]; exact hlt)
      obtain ⟨ad, rfl, d0⟩ := (HA.out.below HB.out).at_ hx
      have hs := (HA.out.below HB.out).mem _ (List.mem_of_getElem? hx)
      have hcp : m ≤ c2 := hs.cap
      have i1 : (0 : Int) ≤ (k : Int) := by omega
      have i2 : (k : Int) < (n : Int) := by omega
      have l1 : decide ((k : Int) < (n : Int)) = true := decide_eq_true i2
      have l1n : decide (k < n) = true := decide_eq_true hlt
      by_cases h6 : k = 6
      · have g6 : ((k : Int) == 6) = true := by simp; omega
        clear h6 hk6 hs hx
        go_wp2_with fail
        go_ret
        exact ⟨rfl, HB.out⟩
      · have g6 : ((k : Int) == 6) = false := by simp; omega
        have HJ := Lib.hid (show k + 1 ≤ n ∧ k + 1 ≤ 6 by omega)
        have j9 : k < 100 := by omega
        have hcut := cut_us hs.row 9
        have HRG : Hid (∀ s ∈ ss.take 9, 0 ≤ s ∧ s < 4294967296) := Lib.hid (fun s h => hs.rng s (List.mem_of_mem_take h))
        have HC := Lib.hid (hcut.alloc (Nat.le_refl _) (.cells #[] 31))
        have HBA := Lib.hid (HB.out.alloc HB.out.size (.cells #[] 31))
        have HBA2 := Lib.hid ((Below.refl wr.heap.size wr).alloc (Nat.le_refl _) (.cells #[] 31))
        obtain ⟨sl, hsl⟩ : ∃ t, ss.take 9 = t := ⟨_, rfl⟩
        obtain ⟨q, hq⟩ : ∃ q, min m 9 = q := ⟨_, rfl⟩
        have HQ9 : Hid (q ≤ 9) := Lib.hid (by omega)
        rw [hsl, hq] at HC
        rw [hsl] at HRG
        have hmi : min (m : Int) 9 = (q : Int) := by omega
        have m0 : (0 : Int) ≤ (q : Int) := by omega
        have m1 : (q : Int) ≤ (c2 : Int) := by omega
        clear h6 hk6 hs hx hcut hsl hq hlt
        go_upto_region 8 with (
          at_builtin
          refine wpList_append_any _ rfl (.tmp 17) (.tmp 22) 24 rfl wr.heap.size 31 ji (.int .u32 0) 1 4 Tryd.underlying24 hi1 hy0 hy1 hy2 rfl (by decide) (.slice (some ⟨wr.heap.size, 0, none⟩) 0 0) 0 [] rfl (by simpa using World.ownsRow_made wr #[] 0 (Nat.le_refl _) (by simp [maxLen]) (by simp)) _ A2 q c2 (us sl) rfl HC.out (us_ones _) (by have := HQ9.out; simp only [maxLen]; omega) (by have := HQ9.out; omega) (by simp) ?_
          intro v9 w9 own9 grow9 ne9
          rw [List.nil_append, Nat.zero_add] at own9
          obtain ⟨A9, c9, rfl, _, _⟩ := own_reads own9
          have HBX : Hid (Below wr.heap.size wr w9) := Lib.hid (HBA2.out.grown grow9 HBA2.out.size (fun g hg => by simp [Value.ownBlock] at hg; omega))
          have HSW : Hid (SW w9 A9 q sl) := Lib.hid ⟨Reads.of_own own9, by have := HQ9.out; omega, HRG.out⟩
          clear own9 grow9 ne9)
        have HB9 := Lib.hid (HB.out.trans (HBX.out.mono HB.out.size))
        have HMa := Lib.hid (fun (u : World) (h : Below w9.heap.size w9 u) => may_any A9 q c9 sl u (HSW.out.below h) (HDB.out.below (HB9.out.trans (h.mono HB9.out.size)) HDL.out))
        have HMr := Lib.hid (fun (u : World) (h : Below w9.heap.size w9 u) => rmay_any A9 q c9 sl u (HSW.out.below h))
        have HSt := Lib.hid (fun (u : World) (h : Below w9.heap.size w9 u) => stuck_any A9 q c9 sl u (HSW.out.below h))
        have HSr := Lib.hid (fun (u : World) (h : Below w9.heap.size w9 u) => rstucks_any A9 q c9 sl u (HSW.out.below h))
        obtain ⟨mb, hmb⟩ : ∃ b, mayB sl = b := ⟨_, rfl⟩
        rw [hmb] at HMa HMr
        have hbb : (mb != mb) = false := by simp
        obtain ⟨st, hst⟩ : ∃ b, stuckL sl = b := ⟨_, rfl⟩
        rw [hst] at HSt HSr
        clear hmb hst d0 hmi m0 m1 HC HBA HBA2
        go_wp2_with fail
        refine (HMa.out _ (Below.refl _ _)).mono ?_
        rintro e u1 ⟨rfl, h1⟩
        have HX := Lib.hid h1
        clear h1
        go_wp2_with fail
        refine (HMr.out _ HX.out).mono ?_
        rintro e u2 ⟨rfl, h1⟩
        replace HX := Lib.hid (HX.out.trans (h1.mono HX.out.size))
        clear h1
        go_wp2_with fail
        refine (HSt.out _ HX.out).mono ?_
        rintro e u3 ⟨A3, n3, c3, rfl, ho3, h1⟩
        replace HX := Lib.hid (HX.out.trans (h1.mono HX.out.size))
        have HR3 := Lib.hid (Reads.of_own ho3)
        have hn3 : st.length = n3 := by have h := ho3.1; rw [length_vs] at h; omega
        have HN3 := Lib.hid hn3
        clear h1 ho3 hn3
        go_wp2_with fail
        refine (HSr.out _ HX.out).mono ?_
        rintro e u4 ⟨A4, n4, c4, rfl, hi4, h1⟩
        obtain rfl : n3 = n4 := by have := hi4.len; have := HN3.out; omega
        have HSa := Lib.hid (same_same A3 A4 n3 c3 c4 st u4 ((HR3.out.below h1).more h1.size) hi4.row (by have := hi4.small; omega))
        replace HX := Lib.hid (HX.out.trans (h1.mono HX.out.size))
        clear h1 hi4
        go_wp2_with fail
        refine HSa.out.mono ?_
        rintro e u5 ⟨rfl, md, rfl⟩
        have HBF := Lib.hid (below_drewN (HB9.out.trans (HX.out.mono HB9.out.size)) md)
        clear hbb
        go_wp2_with fail
        go_roundw
        case rel => exact ⟨k + 1, HJ.out.1, HJ.out.2, by go_num, HBF⟩
        case measure => have := HJ.out; simp [intOf] <;> omega
    · obtain rfl : n = k := by omega
      have l1 : decide ((n : Int) < (n : Int)) = false := decide_eq_false (by omega)
      have l1n : decide (n < n) = false := decide_eq_false (by omega)
      go_wp2_with fail
      go_ret
      exact ⟨rfl, HB.out⟩

end Go.Proofs.YtkbgpmgnkegipaaDoor
