/-
  PoolBytes' walk, on what is asked of the landed calls.
-/
import Derived.Test.YtnckfgnhlnichaaVr
namespace Go.Proofs.Ytnckfgnhlnichaa
open Go.RowKit

/-- pools, a row of bytes, as they lie inside a row -/
structure InnerP where
  A : Option Addr
  n : Nat
  c : Nat
  l : List Nat
def InnerP.val (r : InnerP) : Value := .slice r.A r.n r.c
def InnerP.ok (W : World) (r : InnerP) : Prop := Reads W W.heap.size 1 r.A r.n (us r.l) ∧ r.n ≤ r.c ∧ U32s r.l
structure InnerB where
  A : Option Addr
  n : Nat
  c : Nat
  l : List Nat
def InnerB.val (r : InnerB) : Value := .slice r.A r.n r.c
def InnerB.ok (W : World) (r : InnerB) : Prop := Reads W W.heap.size 1 r.A r.n (ub r.l) ∧ r.n ≤ r.c ∧ ∀ x ∈ r.l, x < 256
theorem innerP_at {l : List InnerP} {k : Nat} {v : Value} (h : (l.map InnerP.val)[k]? = some v) : ∃ x, l[k]? = some x ∧ v = .slice x.A x.n x.c := by
  rw [List.getElem?_map] at h
  cases hl : l[k]? with
  | none => rw [hl] at h; cases h
  | some x => rw [hl] at h; injection h with h; exact ⟨x, rfl, h.symm⟩
theorem innerB_at {l : List InnerB} {k : Nat} {v : Value} (h : (l.map InnerB.val)[k]? = some v) : ∃ x, l[k]? = some x ∧ v = .slice x.A x.n x.c := by
  rw [List.getElem?_map] at h
  cases hl : l[k]? with
  | none => rw [hl] at h; cases h
  | some x => rw [hl] at h; injection h with h; exact ⟨x, rfl, h.symm⟩

set_option maxRecDepth 100000 in
set_option maxHeartbeats 32000000 in
theorem bytes_walk {G : World → Prop} (hG : Steady G) (HEn : PEncodeOk G) (HDe : PDecodeOk G) (hk : ∀ u, G u → Calls Try.prog 9 #[] u (Said (.bool true) u))
    (A A' : Option Addr) (n c n' c' : Nat) (ls : List InnerP) (bs : List InnerB) (w : World) (hg : G w)
    (hR : Reads w w.heap.size 1 A n (ls.map InnerP.val)) (hok : ∀ (k : Nat) (x : InnerP), ls[k]? = some x → x.ok w) (hR' : Reads w w.heap.size 1 A' n' (bs.map InnerB.val)) (hok' : ∀ (k : Nat) (x : InnerB), bs[k]? = some x → x.ok w) :
    Calls Try.prog 6 #[.slice A n c, .slice A' n' c'] w (Said (.bool true) w) := by
  obtain ⟨i0, hi0, hz0, hz1, hz2⟩ := info_parts8 byte_info8
  have HK := Lib.hid (hk w hg)
  have HG := Lib.hid hG
  have HGs := Lib.hid (fun (u : World) (h : Below w.heap.size w u) => hG w u hg h)
  have HEe := Lib.hid HEn
  have HDd := Lib.hid HDe
  have HR := Lib.hid hR
  have HR' := Lib.hid hR'
  have HOk := Lib.hid hok
  have HOk' := Lib.hid hok'
  clear hk hR hR' hok hok' hg hG
  go_enter Try.func6, Try.ntmps6
  go_wp2_with fail
  refine HK.out.mono ?_
  rintro e w1 ⟨rfl, h1⟩
  go_wp2_with fail
  go_loopw [22] (fun i wr => ∃ k : Nat, k ≤ n ∧ k ≤ 8 ∧ i = .int .i64 (k : Int) ∧ Below w.heap.size w wr) (fun i _ => n - (intOf i).toNat)
  case atStart => exact ⟨0, by omega, by omega, rfl, h1⟩
  case round =>
    clear h1
    obtain ⟨k, hk, hk8, rfl, hB⟩ := hrel
    by_cases hlt : k < n
    · obtain ⟨ad, v, rfl, _, hx, hc⟩ := (HR.out.below hB).at_ hlt
      obtain ⟨x, hs, rfl⟩ := innerP_at hx
      have hxo := HOk.out k x hs
      have j0 : (0 : Int) ≤ (k : Int) := by omega
      have j1 : (k : Int) < (n : Int) := by omega
      have hsz := hB.size
      have hB2 := hB.alloc hsz (.cells #[.slice x.A x.n x.c] 24)
      clear hx hs
      by_cases h8 : k = 8
      · have g8 : ((k : Int) == 8) = true := by simp; omega
        clear h8 hk8 hxo hB
        have hB := hB2
        clear hB2
        go_wp2_with fail
        go_loopw [66] (fun i wr => ∃ j : Nat, j ≤ n' ∧ j ≤ 12 ∧ i = .int .i64 (j : Int) ∧ Below w.heap.size w wr) (fun i _ => n' - (intOf i).toNat)
        case atStart => exact ⟨0, by omega, by omega, rfl, hB⟩
        case round =>
          clear hB
          obtain ⟨j, hj, hj12, rfl, hB⟩ := hrel
          by_cases hjt : j < n'
          · obtain ⟨ad, v, rfl, _, hx, hc⟩ := (HR'.out.below hB).at_ hjt
            obtain ⟨x, hs, rfl⟩ := innerB_at hx
            have hxo := HOk'.out j x hs
            have j2 : (0 : Int) ≤ (j : Int) := by omega
            have j3 : (j : Int) < (n' : Int) := by omega
            clear hx hs
            by_cases h12 : j = 12
            · have g12 : ((j : Int) == 12) = true := by simp; omega
              have BH := Lib.hid hB
              clear h12 hj12 hxo hB
              go_wp2
              go_ret
              exact ⟨rfl, BH.out⟩
            · have g12 : ((j : Int) == 12) = false := by simp; omega
              have HJ := Lib.hid (show j + 1 ≤ n' ∧ j + 1 ≤ 12 by omega)
              have j9 : j < 100 := by omega
              obtain ⟨m, hm⟩ : ∃ m, m = min x.n 300 := ⟨_, rfl⟩
              have hbl := ubytes_len hxo.1
              have hbt : x.l.take 300 = x.l.take m := by rw [hm, ← hbl]; simp; omega
              have HBT : Hid (∀ y ∈ x.l.take 300, y < 256) := Lib.hid (fun y hy => hxo.2.2 y (List.mem_of_mem_take hy))
              have HXR : Hid (∀ u, Below w.heap.size w u → Reads u u.heap.size 1 x.A m (ub (x.l.take 300))) := Lib.hid (fun u hb => by
                have := ubytes_take ((hxo.1.below hb).more hb.size) (N := m) (by omega)
                rwa [← hbt] at this)
              have m0 : (m : Int) ≤ (x.c : Int) := by have := hxo.2.1; omega
              have HM3 : Hid (m ≤ 300) := Lib.hid (by omega)
              have HMm := Lib.hid hm
              generalize x.l.take 300 = BT at *
              obtain ⟨L2, code, hd⟩ : ∃ L2 code, decodeP BT = (L2, code) := ⟨_, _, rfl⟩
              have HDV := Lib.hid hd
              have HL3 : Hid (L2.length ≤ 1000) := Lib.hid (by
                have hbtl : BT.length = m := by have := ubytes_len (HXR.out _ hB); exact this
                unfold decodeP at hd
                (repeat' split at hd) <;> (simp only [Prod.mk.injEq] at hd; rw [← hd.1]; simp <;> omega))
              clear h12 hj12 hxo hbl hbt hm hd
              by_cases h3 : (300 : Int) < (x.n : Int)
              · have HT : Hid (m = 300) := Lib.hid (by have := HMm.out; omega)
                have h3c : (300 : Int) ≤ (x.c : Int) := by have := HMm.out; omega
                clear m0
                have HBm : Hid (∀ u, Below w.heap.size w u → Reads u u.heap.size 1 x.A m (ub BT)) := HXR
                have HRa := Lib.hid ((HBm.out _ hB).alloc (Nat.le_refl _) (.cells #[] 5))
                have za := hB.size
                have HBa := Lib.hid hB
                clear hB HXR HBm
                go_wp2_with (
                  at_builtin
                  refine wpList_append_any _ rfl (.tmp 73) (.tmp 78) 51 rfl w.heap.size 5 i0 (.int .u8 0) 1 1 Try.underlying51 hi0 hz0 hz1 hz2 rfl (by decide) (.slice (some ⟨wr.heap.size, 0, none⟩) 0 0) 0 [] rfl (World.ownsRow_made _ _ _ (by omega) (by simp [maxLen]) (by simp)) wr.heap.size x.A 300 x.c (ub BT) rfl (by first | exact HRa.out | (have := HRa.out; rwa [HT.out] at this)) (ub_ones _) (by have := HM3.out; simp only [maxLen]; omega) (by have := HM3.out; omega) (by simp <;> omega) ?_
                  intro v2 ua own2 grow2 _
                  rw [List.nil_append, Nat.zero_add] at own2
                  obtain ⟨Aa, ca, rfl, hca, ra⟩ := own_reads own2
                  have HGa := Lib.hid (((Below.refl wr.heap.size wr).alloc (Nat.le_refl _) (.cells #[] 5)).grown grow2 (by simp) (fun g hg => by simp [Value.ownBlock] at hg; omega))
                  have HFa := Lib.hid (And.intro ra hca)
                  clear own2 grow2 hca ra)
                rw [show (Value.slice Aa 300 ca) = .slice Aa m ca by rw [HT.out]]
                have HFa2 : Hid (Reads ua ua.heap.size 1 Aa m (ub BT) ∧ m ≤ ca) := Lib.hid (by rw [HT.out]; exact HFa.out)
                have B2 := HBa.out.trans (HGa.out.mono HBa.out.size)
                have HAt : Hid (BAt G ua Aa m ca BT) := Lib.hid ⟨HFa2.out.1, HFa2.out.2, by have := HM3.out; omega, HBT.out, HGs.out _ B2⟩
                clear HBa HGa za HFa HFa2 HRa
                refine (HDd.out Aa m ca BT ua HAt.out).mono ?_
                rintro e w3 ⟨A3, c3, rfl, own3, h3⟩
                rw [HDV.out] at own3 ⊢
                obtain ⟨n3, hn3⟩ : ∃ n3, L2.length = n3 := ⟨_, rfl⟩
                rw [show (L2, code).1.length = n3 from hn3] at own3 ⊢
                have B3 := B2.trans (h3.mono B2.size)
                have K3 := Blk.new w3 24 #[.slice A3 n3 c3]
                have B4 := B3.alloc B3.size (.cells #[.slice A3 n3 c3] 24)
                have R3 := own_reads' (own3.alloc (.cells #[.slice A3 n3 c3] 24))
                have R4 := (HAt.out.below HG.out h3).below HG.out ((Below.refl _ w3).alloc (Nat.le_refl _) (.cells #[.slice A3 n3 c3] 24))
                have HRb := Lib.hid (R4.1.alloc (by simp) (.cells #[] 5))
                have HX := Lib.hid (And.intro K3 (And.intro B4 R3))
                have zb := B4.size
                clear own3 h3 B2 B3 K3 B4 R3 R4 HAt
                go_wp2_with (
                  at_builtin
                  refine wpList_append_any _ rfl (.tmp 86) (.tmp 87) 51 rfl w.heap.size 5 i0 (.int .u8 0) 1 1 Try.underlying51 hi0 hz0 hz1 hz2 rfl (by decide) (.slice (some ⟨w3.heap.size + 1, 0, none⟩) 0 0) 0 [] rfl (by simpa using World.ownsRow_made (w3.alloc (.cells #[.slice A3 n3 c3] 24)) #[] 0 zb (by simp [maxLen]) (by simp)) (w3.alloc (.cells #[.slice A3 n3 c3] 24)).heap.size Aa m ca (ub BT) rfl HRb.out (ub_ones _) (by have := HM3.out; simp only [maxLen]; omega) (by have := HM3.out; omega) (by unfold World.alloc at zb ⊢; simp at zb ⊢; omega) ?_
                  intro v2 ub' own2 grow2 _
                  rw [List.nil_append, Nat.zero_add] at own2
                  obtain ⟨Ab, cb, rfl, hcb, rb⟩ := own_reads own2
                  have hG : Below (w3.alloc (.cells #[.slice A3 n3 c3] 24)).heap.size (w3.alloc (.cells #[.slice A3 n3 c3] 24)) ub' := ((Below.refl (w3.alloc (.cells #[.slice A3 n3 c3] 24)).heap.size (w3.alloc (.cells #[.slice A3 n3 c3] 24))).alloc (Nat.le_refl _) (.cells #[] 5)).grown grow2 (by simp) (fun g hg => by simp [Value.ownBlock] at hg; simp; omega)
                  have HGb := Lib.hid hG
                  have HFb := Lib.hid (And.intro rb hcb)
                  clear own2 grow2 hcb rb hG)
                have K5 := HX.out.1.below HGb.out HX.out.1.lt
                have B5 := HX.out.2.1.trans (HGb.out.mono HX.out.2.1.size)
                have R5 := (HX.out.2.2.below HGb.out).more HGb.out.size
                clear HX HGb zb HRb
                refine (rdecodeP_any Ab m cb BT ub' HBT.out HFb.out.1 HFb.out.2 (by have := HM3.out; omega)).mono ?_
                rintro e w6 ⟨A6, c6, rfl, own6, h6⟩
                rw [HDV.out] at own6 ⊢
                rw [show (L2, code).1.length = n3 from hn3] at own6 ⊢
                have K6 := (K5.below h6 K5.lt).alloc (.cells #[.slice A6 n3 c6] 24)
                have B6 := B5.trans (h6.mono B5.size)
                have B7 := B6.alloc B6.size (.cells #[.slice A6 n3 c6] 24)
                have R7 := ((R5.below h6).more h6.size).alloc (Nat.le_refl _) (.cells #[.slice A6 n3 c6] 24)
                have R8 := own_reads' (own6.alloc (.cells #[.slice A6 n3 c6] 24))
                have K7 := Blk.new w6 24 #[.slice A6 n3 c6]
                have hs := rsameP_any A3 A6 n3 c3 n3 c6 L2 L2 _ (R7.more (by simp)) R8 (by have := HL3.out; omega)
                rw [sameP_self] at hs
                have HSm := Lib.hid hs
                have p0 := K6.cell 0
                have p1 := K7.cell 0
                clear hs R7 R8 K6 K7 B6 B5 K5 R5 h6 own6 HFb hn3
                go_wp2_with fail
                refine HSm.out.mono ?_
                rintro e w8 ⟨rfl, h8⟩
                have B8 := Lib.hid (B7.trans (h8.mono B7.size))
                clear p0 p1 h8 B7 HSm
                go_wp2
                go_roundw
                case rel => exact ⟨j + 1, HJ.out.1, HJ.out.2, by go_num, B8.out⟩
                case measure => have := HJ.out.1; simp [intOf] <;> omega
              · obtain rfl : m = x.n := by have := HMm.out; omega
                have HT : Hid (x.n = x.n) := Lib.hid rfl
                have h3' : (x.n : Int) ≤ 300 := by omega
                clear h3
                have HBm : Hid (∀ u, Below w.heap.size w u → Reads u u.heap.size 1 x.A x.n (ub BT)) := HXR
                have HRa := Lib.hid ((HBm.out _ hB).alloc (Nat.le_refl _) (.cells #[] 5))
                have za := hB.size
                have HBa := Lib.hid hB
                clear hB HXR HBm
                go_wp2_with (
                  at_builtin
                  refine wpList_append_any _ rfl (.tmp 73) (.tmp 78) 51 rfl w.heap.size 5 i0 (.int .u8 0) 1 1 Try.underlying51 hi0 hz0 hz1 hz2 rfl (by decide) (.slice (some ⟨wr.heap.size, 0, none⟩) 0 0) 0 [] rfl (World.ownsRow_made _ _ _ (by omega) (by simp [maxLen]) (by simp)) wr.heap.size x.A x.n x.c (ub BT) rfl (by first | exact HRa.out | (have := HRa.out; rwa [HT.out] at this)) (ub_ones _) (by have := HM3.out; simp only [maxLen]; omega) (by have := HM3.out; omega) (by simp <;> omega) ?_
                  intro v2 ua own2 grow2 _
                  rw [List.nil_append, Nat.zero_add] at own2
                  obtain ⟨Aa, ca, rfl, hca, ra⟩ := own_reads own2
                  have HGa := Lib.hid (((Below.refl wr.heap.size wr).alloc (Nat.le_refl _) (.cells #[] 5)).grown grow2 (by simp) (fun g hg => by simp [Value.ownBlock] at hg; omega))
                  have HFa := Lib.hid (And.intro ra hca)
                  clear own2 grow2 hca ra)
                have HFa2 := HFa
                have B2 := HBa.out.trans (HGa.out.mono HBa.out.size)
                have HAt : Hid (BAt G ua Aa x.n ca BT) := Lib.hid ⟨HFa2.out.1, HFa2.out.2, by have := HM3.out; omega, HBT.out, HGs.out _ B2⟩
                clear HBa HGa za HFa HFa2 HRa
                refine (HDd.out Aa x.n ca BT ua HAt.out).mono ?_
                rintro e w3 ⟨A3, c3, rfl, own3, h3⟩
                rw [HDV.out] at own3 ⊢
                obtain ⟨n3, hn3⟩ : ∃ n3, L2.length = n3 := ⟨_, rfl⟩
                rw [show (L2, code).1.length = n3 from hn3] at own3 ⊢
                have B3 := B2.trans (h3.mono B2.size)
                have K3 := Blk.new w3 24 #[.slice A3 n3 c3]
                have B4 := B3.alloc B3.size (.cells #[.slice A3 n3 c3] 24)
                have R3 := own_reads' (own3.alloc (.cells #[.slice A3 n3 c3] 24))
                have R4 := (HAt.out.below HG.out h3).below HG.out ((Below.refl _ w3).alloc (Nat.le_refl _) (.cells #[.slice A3 n3 c3] 24))
                have HRb := Lib.hid (R4.1.alloc (by simp) (.cells #[] 5))
                have HX := Lib.hid (And.intro K3 (And.intro B4 R3))
                have zb := B4.size
                clear own3 h3 B2 B3 K3 B4 R3 R4 HAt
                go_wp2_with (
                  at_builtin
                  refine wpList_append_any _ rfl (.tmp 86) (.tmp 87) 51 rfl w.heap.size 5 i0 (.int .u8 0) 1 1 Try.underlying51 hi0 hz0 hz1 hz2 rfl (by decide) (.slice (some ⟨w3.heap.size + 1, 0, none⟩) 0 0) 0 [] rfl (by simpa using World.ownsRow_made (w3.alloc (.cells #[.slice A3 n3 c3] 24)) #[] 0 zb (by simp [maxLen]) (by simp)) (w3.alloc (.cells #[.slice A3 n3 c3] 24)).heap.size Aa x.n ca (ub BT) rfl HRb.out (ub_ones _) (by have := HM3.out; simp only [maxLen]; omega) (by have := HM3.out; omega) (by unfold World.alloc at zb ⊢; simp at zb ⊢; omega) ?_
                  intro v2 ub' own2 grow2 _
                  rw [List.nil_append, Nat.zero_add] at own2
                  obtain ⟨Ab, cb, rfl, hcb, rb⟩ := own_reads own2
                  have hG : Below (w3.alloc (.cells #[.slice A3 n3 c3] 24)).heap.size (w3.alloc (.cells #[.slice A3 n3 c3] 24)) ub' := ((Below.refl (w3.alloc (.cells #[.slice A3 n3 c3] 24)).heap.size (w3.alloc (.cells #[.slice A3 n3 c3] 24))).alloc (Nat.le_refl _) (.cells #[] 5)).grown grow2 (by simp) (fun g hg => by simp [Value.ownBlock] at hg; simp; omega)
                  have HGb := Lib.hid hG
                  have HFb := Lib.hid (And.intro rb hcb)
                  clear own2 grow2 hcb rb hG)
                have K5 := HX.out.1.below HGb.out HX.out.1.lt
                have B5 := HX.out.2.1.trans (HGb.out.mono HX.out.2.1.size)
                have R5 := (HX.out.2.2.below HGb.out).more HGb.out.size
                clear HX HGb zb HRb
                refine (rdecodeP_any Ab x.n cb BT ub' HBT.out HFb.out.1 HFb.out.2 (by have := HM3.out; omega)).mono ?_
                rintro e w6 ⟨A6, c6, rfl, own6, h6⟩
                rw [HDV.out] at own6 ⊢
                rw [show (L2, code).1.length = n3 from hn3] at own6 ⊢
                have K6 := (K5.below h6 K5.lt).alloc (.cells #[.slice A6 n3 c6] 24)
                have B6 := B5.trans (h6.mono B5.size)
                have B7 := B6.alloc B6.size (.cells #[.slice A6 n3 c6] 24)
                have R7 := ((R5.below h6).more h6.size).alloc (Nat.le_refl _) (.cells #[.slice A6 n3 c6] 24)
                have R8 := own_reads' (own6.alloc (.cells #[.slice A6 n3 c6] 24))
                have K7 := Blk.new w6 24 #[.slice A6 n3 c6]
                have hs := rsameP_any A3 A6 n3 c3 n3 c6 L2 L2 _ (R7.more (by simp)) R8 (by have := HL3.out; omega)
                rw [sameP_self] at hs
                have HSm := Lib.hid hs
                have p0 := K6.cell 0
                have p1 := K7.cell 0
                clear hs R7 R8 K6 K7 B6 B5 K5 R5 h6 own6 HFb hn3
                go_wp2_with fail
                refine HSm.out.mono ?_
                rintro e w8 ⟨rfl, h8⟩
                have B8 := Lib.hid (B7.trans (h8.mono B7.size))
                clear p0 p1 h8 B7 HSm
                go_wp2
                go_roundw
                case rel => exact ⟨j + 1, HJ.out.1, HJ.out.2, by go_num, B8.out⟩
                case measure => have := HJ.out.1; simp [intOf] <;> omega
          · have BH := Lib.hid hB
            obtain rfl : n' = j := by omega
            clear hB
            go_wp2
            go_ret
            exact ⟨rfl, BH.out⟩
      · have g8 : ((k : Int) == 8) = false := by simp; omega
        have HJ8 := Lib.hid (show k + 1 ≤ n ∧ k + 1 ≤ 8 by omega)
        have k9 : k < 100 := by omega
        have HSh := Lib.hid (shortP_any x.A x.n x.c x.l (wr.alloc (.cells #[.slice x.A x.n x.c] 24)) ((hxo.1.below hB2).more hB2.size) hxo.2.1)
        have HU := Lib.hid (u32s_take hxo.2.2 12)
        have HLn : Hid ((x.l.take 12).length ≤ 1000) := Lib.hid (by rw [List.length_take]; omega)
        generalize x.l.take 12 = L at *
        have HBk := Lib.hid hB2
        clear h8 hk8 hxo hB hB2 hsz
        go_wp2_with fail
        refine HSh.out.mono ?_
        rintro e w2 ⟨A5, c5, rfl, own5, h9⟩
        obtain ⟨n5, hn5⟩ : ∃ n5, L.length = n5 := ⟨_, rfl⟩
        rw [hn5] at own5 HLn ⊢
        have B := HBk.out.trans (h9.mono HBk.out.size)
        have AtP : Hid (PAt G w2 A5 n5 c5 L) := Lib.hid (PAt.own own5 HLn.out HU.out (HGs.out _ B))
        have KP := Blk.new w2 24 #[.slice A5 n5 c5]
        replace AtP := Lib.hid (AtP.out.below HG.out ((Below.refl _ w2).alloc (Nat.le_refl _) (.cells #[.slice A5 n5 c5] 24)))
        replace B := B.alloc B.size (.cells #[.slice A5 n5 c5] 24)
        have k1 := KP.cell 0
        clear own5 h9 HBk
        go_wp2_with fail
        refine (HEe.out _ _ _ _ _ AtP.out).mono ?_
        rintro e w3 ⟨A6, c6, rfl, hc6, r6, h9⟩
        replace AtP := Lib.hid (AtP.out.below HG.out h9)
        replace KP := KP.below h9 KP.lt
        replace B := B.trans (h9.mono B.size)
        have HRi := Lib.hid (rrightP_any A5 n5 c5 L w3 AtP.out.1 HLn.out)
        clear h9 k1
        have k1 := KP.cell 0
        cases hr : rightP L with
        | true =>
          rw [hr] at HRi
          rw [show encR L = (bytesP L, 0) from if_pos hr] at hc6 r6 ⊢
          obtain ⟨n6, hn6⟩ : ∃ n6, (bytesP L).length = n6 := ⟨_, rfl⟩
          rw [show (bytesP L, (0 : Int)).1.length = n6 from hn6] at hc6 r6 ⊢
          go_wp2_with fail
          refine HRi.out.mono ?_
          rintro e w4 ⟨rfl, h9⟩
          replace AtP := Lib.hid (AtP.out.below HG.out h9)
          replace KP := KP.below h9 KP.lt
          replace B := B.trans (h9.mono B.size)
          have r7 := (r6.below h9).more h9.size
          have HBb := Lib.hid (rbytesP_any A5 n5 c5 L w4 AtP.out.1 hr)
          clear h9 k1 r6
          have k1 := KP.cell 0
          go_wp2_with fail
          refine HBb.out.mono ?_
          rintro e w5 ⟨A7, c7, rfl, own7, h9⟩
          rw [hn6] at own7 ⊢
          have HEq := Lib.hid (equal_same A6 A7 n6 n6 c6 c7 _ _ (bytesP L) w5 ((r7.below h9).more h9.size) (own_reads' own7))
          have BH := Lib.hid (B.trans (h9.mono B.size))
          clear h9 k1 r7 own7 B KP hr hn6 hc6
          go_wp2_with fail
          refine HEq.out.mono ?_
          rintro e w6 ⟨rfl, rfl⟩
          go_wp2
          go_roundw
          case rel => exact ⟨k + 1, HJ8.out.1, HJ8.out.2, by go_num, BH.out⟩
          case measure => have := HJ8.out.1; simp [intOf] <;> omega
        | false =>
          rw [hr] at HRi
          rw [show encR L = ([], 180) from if_neg (by rw [hr]; simp)] at hc6 r6 ⊢
          rw [show (([], (180 : Int)) : List Nat × Int).1.length = 0 from rfl] at hc6 r6 ⊢
          clear hc6 r6 hr
          go_wp2_with fail
          refine HRi.out.mono ?_
          rintro e w4 ⟨rfl, h9⟩
          have BH := Lib.hid (B.trans (h9.mono B.size))
          clear h9 k1 B KP
          go_wp2
          go_roundw
          case rel => exact ⟨k + 1, HJ8.out.1, HJ8.out.2, by go_num, BH.out⟩
          case measure => have := HJ8.out.1; simp [intOf] <;> omega
    · obtain rfl : n = k := by omega
      go_wp2_with fail
      go_loopw [66] (fun i wr => ∃ j : Nat, j ≤ n' ∧ j ≤ 12 ∧ i = .int .i64 (j : Int) ∧ Below w.heap.size w wr) (fun i _ => n' - (intOf i).toNat)
      case atStart => exact ⟨0, by omega, by omega, rfl, hB⟩
      case round =>
        clear hB
        obtain ⟨j, hj, hj12, rfl, hB⟩ := hrel
        by_cases hjt : j < n'
        · obtain ⟨ad, v, rfl, _, hx, hc⟩ := (HR'.out.below hB).at_ hjt
          obtain ⟨x, hs, rfl⟩ := innerB_at hx
          have hxo := HOk'.out j x hs
          have j2 : (0 : Int) ≤ (j : Int) := by omega
          have j3 : (j : Int) < (n' : Int) := by omega
          clear hx hs
          by_cases h12 : j = 12
          · have g12 : ((j : Int) == 12) = true := by simp; omega
            have BH := Lib.hid hB
            clear h12 hj12 hxo hB
            go_wp2
            go_ret
            exact ⟨rfl, BH.out⟩
          · have g12 : ((j : Int) == 12) = false := by simp; omega
            have HJ := Lib.hid (show j + 1 ≤ n' ∧ j + 1 ≤ 12 by omega)
            have j9 : j < 100 := by omega
            obtain ⟨m, hm⟩ : ∃ m, m = min x.n 300 := ⟨_, rfl⟩
            have hbl := ubytes_len hxo.1
            have hbt : x.l.take 300 = x.l.take m := by rw [hm, ← hbl]; simp; omega
            have HBT : Hid (∀ y ∈ x.l.take 300, y < 256) := Lib.hid (fun y hy => hxo.2.2 y (List.mem_of_mem_take hy))
            have HXR : Hid (∀ u, Below w.heap.size w u → Reads u u.heap.size 1 x.A m (ub (x.l.take 300))) := Lib.hid (fun u hb => by
              have := ubytes_take ((hxo.1.below hb).more hb.size) (N := m) (by omega)
              rwa [← hbt] at this)
            have m0 : (m : Int) ≤ (x.c : Int) := by have := hxo.2.1; omega
            have HM3 : Hid (m ≤ 300) := Lib.hid (by omega)
            have HMm := Lib.hid hm
            generalize x.l.take 300 = BT at *
            obtain ⟨L2, code, hd⟩ : ∃ L2 code, decodeP BT = (L2, code) := ⟨_, _, rfl⟩
            have HDV := Lib.hid hd
            have HL3 : Hid (L2.length ≤ 1000) := Lib.hid (by
              have hbtl : BT.length = m := by have := ubytes_len (HXR.out _ hB); exact this
              unfold decodeP at hd
              (repeat' split at hd) <;> (simp only [Prod.mk.injEq] at hd; rw [← hd.1]; simp <;> omega))
            clear h12 hj12 hxo hbl hbt hm hd
            by_cases h3 : (300 : Int) < (x.n : Int)
            · have HT : Hid (m = 300) := Lib.hid (by have := HMm.out; omega)
              have h3c : (300 : Int) ≤ (x.c : Int) := by have := HMm.out; omega
              clear m0
              have HBm : Hid (∀ u, Below w.heap.size w u → Reads u u.heap.size 1 x.A m (ub BT)) := HXR
              have HRa := Lib.hid ((HBm.out _ hB).alloc (Nat.le_refl _) (.cells #[] 5))
              have za := hB.size
              have HBa := Lib.hid hB
              clear hB HXR HBm
              go_wp2_with (
                at_builtin
                refine wpList_append_any _ rfl (.tmp 73) (.tmp 78) 51 rfl w.heap.size 5 i0 (.int .u8 0) 1 1 Try.underlying51 hi0 hz0 hz1 hz2 rfl (by decide) (.slice (some ⟨wr.heap.size, 0, none⟩) 0 0) 0 [] rfl (World.ownsRow_made _ _ _ (by omega) (by simp [maxLen]) (by simp)) wr.heap.size x.A 300 x.c (ub BT) rfl (by first | exact HRa.out | (have := HRa.out; rwa [HT.out] at this)) (ub_ones _) (by have := HM3.out; simp only [maxLen]; omega) (by have := HM3.out; omega) (by simp <;> omega) ?_
                intro v2 ua own2 grow2 _
                rw [List.nil_append, Nat.zero_add] at own2
                obtain ⟨Aa, ca, rfl, hca, ra⟩ := own_reads own2
                have HGa := Lib.hid (((Below.refl wr.heap.size wr).alloc (Nat.le_refl _) (.cells #[] 5)).grown grow2 (by simp) (fun g hg => by simp [Value.ownBlock] at hg; omega))
                have HFa := Lib.hid (And.intro ra hca)
                clear own2 grow2 hca ra)
              rw [show (Value.slice Aa 300 ca) = .slice Aa m ca by rw [HT.out]]
              have HFa2 : Hid (Reads ua ua.heap.size 1 Aa m (ub BT) ∧ m ≤ ca) := Lib.hid (by rw [HT.out]; exact HFa.out)
              have B2 := HBa.out.trans (HGa.out.mono HBa.out.size)
              have HAt : Hid (BAt G ua Aa m ca BT) := Lib.hid ⟨HFa2.out.1, HFa2.out.2, by have := HM3.out; omega, HBT.out, HGs.out _ B2⟩
              clear HBa HGa za HFa HFa2 HRa
              refine (HDd.out Aa m ca BT ua HAt.out).mono ?_
              rintro e w3 ⟨A3, c3, rfl, own3, h3⟩
              rw [HDV.out] at own3 ⊢
              obtain ⟨n3, hn3⟩ : ∃ n3, L2.length = n3 := ⟨_, rfl⟩
              rw [show (L2, code).1.length = n3 from hn3] at own3 ⊢
              have B3 := B2.trans (h3.mono B2.size)
              have K3 := Blk.new w3 24 #[.slice A3 n3 c3]
              have B4 := B3.alloc B3.size (.cells #[.slice A3 n3 c3] 24)
              have R3 := own_reads' (own3.alloc (.cells #[.slice A3 n3 c3] 24))
              have R4 := (HAt.out.below HG.out h3).below HG.out ((Below.refl _ w3).alloc (Nat.le_refl _) (.cells #[.slice A3 n3 c3] 24))
              have HRb := Lib.hid (R4.1.alloc (by simp) (.cells #[] 5))
              have HX := Lib.hid (And.intro K3 (And.intro B4 R3))
              have zb := B4.size
              clear own3 h3 B2 B3 K3 B4 R3 R4 HAt
              go_wp2_with (
                at_builtin
                refine wpList_append_any _ rfl (.tmp 86) (.tmp 87) 51 rfl w.heap.size 5 i0 (.int .u8 0) 1 1 Try.underlying51 hi0 hz0 hz1 hz2 rfl (by decide) (.slice (some ⟨w3.heap.size + 1, 0, none⟩) 0 0) 0 [] rfl (by simpa using World.ownsRow_made (w3.alloc (.cells #[.slice A3 n3 c3] 24)) #[] 0 zb (by simp [maxLen]) (by simp)) (w3.alloc (.cells #[.slice A3 n3 c3] 24)).heap.size Aa m ca (ub BT) rfl HRb.out (ub_ones _) (by have := HM3.out; simp only [maxLen]; omega) (by have := HM3.out; omega) (by unfold World.alloc at zb ⊢; simp at zb ⊢; omega) ?_
                intro v2 ub' own2 grow2 _
                rw [List.nil_append, Nat.zero_add] at own2
                obtain ⟨Ab, cb, rfl, hcb, rb⟩ := own_reads own2
                have hG : Below (w3.alloc (.cells #[.slice A3 n3 c3] 24)).heap.size (w3.alloc (.cells #[.slice A3 n3 c3] 24)) ub' := ((Below.refl (w3.alloc (.cells #[.slice A3 n3 c3] 24)).heap.size (w3.alloc (.cells #[.slice A3 n3 c3] 24))).alloc (Nat.le_refl _) (.cells #[] 5)).grown grow2 (by simp) (fun g hg => by simp [Value.ownBlock] at hg; simp; omega)
                have HGb := Lib.hid hG
                have HFb := Lib.hid (And.intro rb hcb)
                clear own2 grow2 hcb rb hG)
              have K5 := HX.out.1.below HGb.out HX.out.1.lt
              have B5 := HX.out.2.1.trans (HGb.out.mono HX.out.2.1.size)
              have R5 := (HX.out.2.2.below HGb.out).more HGb.out.size
              clear HX HGb zb HRb
              refine (rdecodeP_any Ab m cb BT ub' HBT.out HFb.out.1 HFb.out.2 (by have := HM3.out; omega)).mono ?_
              rintro e w6 ⟨A6, c6, rfl, own6, h6⟩
              rw [HDV.out] at own6 ⊢
              rw [show (L2, code).1.length = n3 from hn3] at own6 ⊢
              have K6 := (K5.below h6 K5.lt).alloc (.cells #[.slice A6 n3 c6] 24)
              have B6 := B5.trans (h6.mono B5.size)
              have B7 := B6.alloc B6.size (.cells #[.slice A6 n3 c6] 24)
              have R7 := ((R5.below h6).more h6.size).alloc (Nat.le_refl _) (.cells #[.slice A6 n3 c6] 24)
              have R8 := own_reads' (own6.alloc (.cells #[.slice A6 n3 c6] 24))
              have K7 := Blk.new w6 24 #[.slice A6 n3 c6]
              have hs := rsameP_any A3 A6 n3 c3 n3 c6 L2 L2 _ (R7.more (by simp)) R8 (by have := HL3.out; omega)
              rw [sameP_self] at hs
              have HSm := Lib.hid hs
              have p0 := K6.cell 0
              have p1 := K7.cell 0
              clear hs R7 R8 K6 K7 B6 B5 K5 R5 h6 own6 HFb hn3
              go_wp2_with fail
              refine HSm.out.mono ?_
              rintro e w8 ⟨rfl, h8⟩
              have B8 := Lib.hid (B7.trans (h8.mono B7.size))
              clear p0 p1 h8 B7 HSm
              go_wp2
              go_roundw
              case rel => exact ⟨j + 1, HJ.out.1, HJ.out.2, by go_num, B8.out⟩
              case measure => have := HJ.out.1; simp [intOf] <;> omega
            · obtain rfl : m = x.n := by have := HMm.out; omega
              have HT : Hid (x.n = x.n) := Lib.hid rfl
              have h3' : (x.n : Int) ≤ 300 := by omega
              clear h3
              have HBm : Hid (∀ u, Below w.heap.size w u → Reads u u.heap.size 1 x.A x.n (ub BT)) := HXR
              have HRa := Lib.hid ((HBm.out _ hB).alloc (Nat.le_refl _) (.cells #[] 5))
              have za := hB.size
              have HBa := Lib.hid hB
              clear hB HXR HBm
              go_wp2_with (
                at_builtin
                refine wpList_append_any _ rfl (.tmp 73) (.tmp 78) 51 rfl w.heap.size 5 i0 (.int .u8 0) 1 1 Try.underlying51 hi0 hz0 hz1 hz2 rfl (by decide) (.slice (some ⟨wr.heap.size, 0, none⟩) 0 0) 0 [] rfl (World.ownsRow_made _ _ _ (by omega) (by simp [maxLen]) (by simp)) wr.heap.size x.A x.n x.c (ub BT) rfl (by first | exact HRa.out | (have := HRa.out; rwa [HT.out] at this)) (ub_ones _) (by have := HM3.out; simp only [maxLen]; omega) (by have := HM3.out; omega) (by simp <;> omega) ?_
                intro v2 ua own2 grow2 _
                rw [List.nil_append, Nat.zero_add] at own2
                obtain ⟨Aa, ca, rfl, hca, ra⟩ := own_reads own2
                have HGa := Lib.hid (((Below.refl wr.heap.size wr).alloc (Nat.le_refl _) (.cells #[] 5)).grown grow2 (by simp) (fun g hg => by simp [Value.ownBlock] at hg; omega))
                have HFa := Lib.hid (And.intro ra hca)
                clear own2 grow2 hca ra)
              have HFa2 := HFa
              have B2 := HBa.out.trans (HGa.out.mono HBa.out.size)
              have HAt : Hid (BAt G ua Aa x.n ca BT) := Lib.hid ⟨HFa2.out.1, HFa2.out.2, by have := HM3.out; omega, HBT.out, HGs.out _ B2⟩
              clear HBa HGa za HFa HFa2 HRa
              refine (HDd.out Aa x.n ca BT ua HAt.out).mono ?_
              rintro e w3 ⟨A3, c3, rfl, own3, h3⟩
              rw [HDV.out] at own3 ⊢
              obtain ⟨n3, hn3⟩ : ∃ n3, L2.length = n3 := ⟨_, rfl⟩
              rw [show (L2, code).1.length = n3 from hn3] at own3 ⊢
              have B3 := B2.trans (h3.mono B2.size)
              have K3 := Blk.new w3 24 #[.slice A3 n3 c3]
              have B4 := B3.alloc B3.size (.cells #[.slice A3 n3 c3] 24)
              have R3 := own_reads' (own3.alloc (.cells #[.slice A3 n3 c3] 24))
              have R4 := (HAt.out.below HG.out h3).below HG.out ((Below.refl _ w3).alloc (Nat.le_refl _) (.cells #[.slice A3 n3 c3] 24))
              have HRb := Lib.hid (R4.1.alloc (by simp) (.cells #[] 5))
              have HX := Lib.hid (And.intro K3 (And.intro B4 R3))
              have zb := B4.size
              clear own3 h3 B2 B3 K3 B4 R3 R4 HAt
              go_wp2_with (
                at_builtin
                refine wpList_append_any _ rfl (.tmp 86) (.tmp 87) 51 rfl w.heap.size 5 i0 (.int .u8 0) 1 1 Try.underlying51 hi0 hz0 hz1 hz2 rfl (by decide) (.slice (some ⟨w3.heap.size + 1, 0, none⟩) 0 0) 0 [] rfl (by simpa using World.ownsRow_made (w3.alloc (.cells #[.slice A3 n3 c3] 24)) #[] 0 zb (by simp [maxLen]) (by simp)) (w3.alloc (.cells #[.slice A3 n3 c3] 24)).heap.size Aa x.n ca (ub BT) rfl HRb.out (ub_ones _) (by have := HM3.out; simp only [maxLen]; omega) (by have := HM3.out; omega) (by unfold World.alloc at zb ⊢; simp at zb ⊢; omega) ?_
                intro v2 ub' own2 grow2 _
                rw [List.nil_append, Nat.zero_add] at own2
                obtain ⟨Ab, cb, rfl, hcb, rb⟩ := own_reads own2
                have hG : Below (w3.alloc (.cells #[.slice A3 n3 c3] 24)).heap.size (w3.alloc (.cells #[.slice A3 n3 c3] 24)) ub' := ((Below.refl (w3.alloc (.cells #[.slice A3 n3 c3] 24)).heap.size (w3.alloc (.cells #[.slice A3 n3 c3] 24))).alloc (Nat.le_refl _) (.cells #[] 5)).grown grow2 (by simp) (fun g hg => by simp [Value.ownBlock] at hg; simp; omega)
                have HGb := Lib.hid hG
                have HFb := Lib.hid (And.intro rb hcb)
                clear own2 grow2 hcb rb hG)
              have K5 := HX.out.1.below HGb.out HX.out.1.lt
              have B5 := HX.out.2.1.trans (HGb.out.mono HX.out.2.1.size)
              have R5 := (HX.out.2.2.below HGb.out).more HGb.out.size
              clear HX HGb zb HRb
              refine (rdecodeP_any Ab x.n cb BT ub' HBT.out HFb.out.1 HFb.out.2 (by have := HM3.out; omega)).mono ?_
              rintro e w6 ⟨A6, c6, rfl, own6, h6⟩
              rw [HDV.out] at own6 ⊢
              rw [show (L2, code).1.length = n3 from hn3] at own6 ⊢
              have K6 := (K5.below h6 K5.lt).alloc (.cells #[.slice A6 n3 c6] 24)
              have B6 := B5.trans (h6.mono B5.size)
              have B7 := B6.alloc B6.size (.cells #[.slice A6 n3 c6] 24)
              have R7 := ((R5.below h6).more h6.size).alloc (Nat.le_refl _) (.cells #[.slice A6 n3 c6] 24)
              have R8 := own_reads' (own6.alloc (.cells #[.slice A6 n3 c6] 24))
              have K7 := Blk.new w6 24 #[.slice A6 n3 c6]
              have hs := rsameP_any A3 A6 n3 c3 n3 c6 L2 L2 _ (R7.more (by simp)) R8 (by have := HL3.out; omega)
              rw [sameP_self] at hs
              have HSm := Lib.hid hs
              have p0 := K6.cell 0
              have p1 := K7.cell 0
              clear hs R7 R8 K6 K7 B6 B5 K5 R5 h6 own6 HFb hn3
              go_wp2_with fail
              refine HSm.out.mono ?_
              rintro e w8 ⟨rfl, h8⟩
              have B8 := Lib.hid (B7.trans (h8.mono B7.size))
              clear p0 p1 h8 B7 HSm
              go_wp2
              go_roundw
              case rel => exact ⟨j + 1, HJ.out.1, HJ.out.2, by go_num, B8.out⟩
              case measure => have := HJ.out.1; simp [intOf] <;> omega
        · have BH := Lib.hid hB
          obtain rfl : n' = j := by omega
          clear hB
          go_wp2
          go_ret
          exact ⟨rfl, BH.out⟩

end Go.Proofs.Ytnckfgnhlnichaa
