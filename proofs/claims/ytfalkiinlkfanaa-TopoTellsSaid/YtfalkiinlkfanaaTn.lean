/-
  TopoBytes' walk, on what is asked of the landed calls.
-/
import Derived.Test.YtfalkiinlkfanaaTj
namespace Go.Proofs.Ytfalkiinlkfanaa
open Go.RowKit

/-- a topology, a row of bytes, as they lie inside a row -/
structure InnerT where
  A : Option Addr
  n : Nat
  c : Nat
  l : List (Int × Int)
def InnerT.val (r : InnerT) : Value := .slice r.A r.n r.c
def InnerT.ok (W : World) (r : InnerT) : Prop := Reads W W.heap.size 2 r.A r.n (svs r.l) ∧ r.n ≤ r.c
structure InnerB where
  A : Option Addr
  n : Nat
  c : Nat
  l : List Int
def InnerB.val (r : InnerB) : Value := .slice r.A r.n r.c
def InnerB.ok (W : World) (r : InnerB) : Prop := r.l.length = r.n ∧ (∀ (k : Nat) (x : Int), r.l[k]? = some x → 0 ≤ x ∧ x < 256) ∧ Reads W W.heap.size 1 r.A r.n (bv r.l) ∧ r.n ≤ r.c
theorem innerT_at {l : List InnerT} {k : Nat} {v : Value} (h : (l.map InnerT.val)[k]? = some v) : ∃ x, l[k]? = some x ∧ v = .slice x.A x.n x.c := by
  rw [List.getElem?_map] at h
  cases hl : l[k]? with
  | none => rw [hl] at h; cases h
  | some x => rw [hl] at h; injection h with h; exact ⟨x, rfl, h.symm⟩
theorem innerB_at {l : List InnerB} {k : Nat} {v : Value} (h : (l.map InnerB.val)[k]? = some v) : ∃ x, l[k]? = some x ∧ v = .slice x.A x.n x.c := by
  rw [List.getElem?_map] at h
  cases hl : l[k]? with
  | none => rw [hl] at h; cases h
  | some x => rw [hl] at h; injection h with h; exact ⟨x, rfl, h.symm⟩

set_option maxRecDepth 100000 in
set_option maxHeartbeats 16000000 in
theorem bytes_walk (HEn : TEncodeOk) (HDd : TDecodeOk) (A A' : Option Addr) (n c n' c' : Nat) (ls : List InnerT) (bs : List InnerB) (w : World) (hn : n ≤ maxLen) (hn' : n' ≤ maxLen)
    (hR : Reads w w.heap.size 1 A n (ls.map InnerT.val)) (hok : ∀ (k : Nat) (x : InnerT), ls[k]? = some x → x.ok w) (hR' : Reads w w.heap.size 1 A' n' (bs.map InnerB.val)) (hok' : ∀ (k : Nat) (x : InnerB), bs[k]? = some x → x.ok w)
    (hk : ∀ u, Calls Try.prog 10 #[] u (Said (.bool true) u)) :
    Calls Try.prog 6 #[.slice A n c, .slice A' n' c'] w (Said (.bool true) w) := by
  obtain ⟨i0, hi0, hz0, hz1, hz2⟩ := info_parts byte_info
  unfold maxLen at hn hn'
  have HK := Lib.hid hk
  have HR := Lib.hid hR
  have HR' := Lib.hid hR'
  have HOk := Lib.hid hok
  have HOk' := Lib.hid hok'
  clear hk hR hR' hok hok'
  go_enter Try.func6, Try.ntmps6
  go_wp2_with fail
  refine (HK.out _).mono ?_
  rintro e w1 ⟨rfl, h1⟩
  go_wp2_with fail
  go_loopw [22] (fun i wr => ∃ k : Nat, k ≤ n ∧ k ≤ 8 ∧ i = .int .i64 (k : Int) ∧ Below w.heap.size w wr) (fun i _ => n - (intOf i).toNat)
  case atStart => exact ⟨0, by omega, by omega, rfl, h1⟩
  case round =>
    clear h1
    obtain ⟨k, hk, hk8, rfl, hB⟩ := hrel
    by_cases hlt : k < n
    · obtain ⟨ad, v, rfl, _, hx, hc⟩ := (HR.out.below hB).at_ hlt
      obtain ⟨x, hs, rfl⟩ := innerT_at hx
      have hxo := HOk.out k x hs
      have j0 : (0 : Int) ≤ (k : Int) := by omega
      have j1 : (k : Int) < (n : Int) := by omega
      have hsz := hB.size
      clear hx hs
      by_cases h8 : k = 8
      · have g8 : ((k : Int) == 8) = true := by simp; omega
        have hB2 := hB.alloc hsz (.cells #[.slice x.A x.n x.c] 27)
        clear h8 hk8 hxo hB
        have hB := hB2
        clear hB2
        go_wp2_with fail
        go_loopw [66] (fun i wr => ∃ j : Nat, j ≤ n' ∧ j ≤ 12 ∧ i = .int .i64 (j : Int) ∧ Below w.heap.size w wr) (fun i _ => n' - (intOf i).toNat)
        case atStart => exact ⟨0, by omega, by omega, rfl, hB⟩
        case round =>
          clear hB
          obtain ⟨j, hj, hj12, rfl, hB⟩ := hrel
          by_cases hjt : j < n'
          · obtain ⟨ad, v, rfl, _, hx, hc⟩ := (HR'.out.below hB).at_ hjt
            obtain ⟨x, hs, rfl⟩ := innerB_at hx
            have hxo := HOk'.out j x hs
            have j2 : (0 : Int) ≤ (j : Int) := by omega
            have j3 : (j : Int) < (n' : Int) := by omega
            clear hx hs
            by_cases h12 : j = 12
            · have g12 : ((j : Int) == 12) = true := by simp; omega
              clear h12 hj12 hxo
              go_wp2
              go_ret
              exact ⟨rfl, hB⟩
            · have g12 : ((j : Int) == 12) = false := by simp; omega
              have HJ := Lib.hid (show j + 1 ≤ n' ∧ j + 1 ≤ 12 by omega)
              obtain ⟨m, hm⟩ : ∃ m, m = min x.n 600 := ⟨_, rfl⟩
              have hlt : (x.l.take 600).length = m := by rw [List.length_take, hxo.1]; omega
              have hbt : x.l.take 600 = x.l.take m := by rw [hm, ← hxo.1]; simp; omega
              have hby2 : ∀ (k : Nat) (y : Int), (x.l.take 600)[k]? = some y → 0 ≤ y ∧ y < 256 := fun k y hy => by
                rw [List.getElem?_take] at hy
                split at hy
                · exact hxo.2.1 k y hy
                · cases hy
              have HXR : Hid (∀ u, Below w.heap.size w u → Reads u u.heap.size 1 x.A m (bv (x.l.take 600))) := Lib.hid (fun u hb => by
                have := bytes_first ((hxo.2.2.1.below hb).more hb.size) (m := m) (by omega)
                rwa [← hbt] at this)
              have m0 : (m : Int) ≤ (x.c : Int) := by have := hxo.2.2.2; omega
              have m600 : m ≤ 600 := by omega
              have HMm := Lib.hid hm
              have HBT := Lib.hid (And.intro hlt hby2)
              clear h12 hj12 hxo hlt hbt hby2 hm
              generalize x.l.take 600 = BT at HXR HBT
              by_cases h6 : (600 : Int) < (x.n : Int)
              · have hm : m = 600 := by have := HMm.out; omega
                subst hm
                clear m600
                have HD := Lib.hid (fun A c u (h1 : Reads u u.heap.size 1 A 600 (bv BT)) (h2 : 600 ≤ c) => HDd A 600 c BT u HBT.out.1 HBT.out.2 h1 h2 (by omega))
                have HE := Lib.hid (fun A c u (h1 : Reads u u.heap.size 1 A 600 (bv BT)) => rdecode_any A 600 c BT u HBT.out.1 HBT.out.2 h1 (by omega))
                obtain ⟨L2, code, hd⟩ : ∃ L2 code, decodeV BT = (L2, code) := ⟨_, _, rfl⟩
                rw [hd] at HD HE
                clear hd
                have za := hB.size
                have HRa := Lib.hid ((HXR.out _ hB).alloc (Nat.le_refl _) (.cells #[] 5))
                have HBa := Lib.hid hB
                clear hB HXR
                go_wp2_with (
                  at_builtin
                  refine wpList_append_any _ rfl (.tmp 73) (.tmp 78) 62 rfl w.heap.size 5 i0 (.int .u8 0) 1 1 Try.underlying62 hi0 hz0 hz1 hz2 rfl (by decide) (.slice (some ⟨wr.heap.size, 0, none⟩) 0 0) 0 [] rfl (World.ownsRow_made _ _ _ (by omega) (by simp [maxLen]) (by simp)) wr.heap.size x.A 600 x.c (bv BT) rfl HRa.out (bv_ones _) (by simp only [maxLen]; omega) (by omega) (by simp <;> omega) ?_
                  intro v2 ua hown2 hg2 _
                  rw [List.nil_append, Nat.zero_add] at hown2
                  obtain ⟨Aa, ca, rfl, hc2, hf2⟩ := own_reads hown2
                  have HFa := Lib.hid (And.intro hf2 hc2)
                  have HGa := Lib.hid (((Below.refl wr.heap.size wr).alloc (Nat.le_refl _) (.cells #[] 5)).grown hg2 (by simp) (fun g hg => by simp [Value.ownBlock] at hg; omega))
                  clear hown2 hg2 hc2 hf2 HRa)
                have B2 := HBa.out.trans (HGa.out.mono HBa.out.size)
                clear HBa HGa za
                refine (HD.out Aa ca ua HFa.out.1 HFa.out.2).mono ?_
                rintro e w3 ⟨A3, n3, c3, rfl, hn3, hA3, h3⟩
                have B3 := B2.trans (h3.mono B2.size)
                have K3 := Blk.new w3 27 #[.slice A3 n3 c3]
                have B4 := B3.alloc B3.size (.cells #[.slice A3 n3 c3] 27)
                have hA4 := hA3.below ((Below.refl _ _).alloc (Nat.le_refl _) (.cells #[.slice A3 n3 c3] 27))
                have hr4 := ((HFa.out.1.below h3).more h3.size).alloc (Nat.le_refl _) (.cells #[.slice A3 n3 c3] 27)
                have HRb := Lib.hid (hr4.alloc (by simp) (.cells #[] 5))
                have zb := B4.size
                have z3 : w3.heap.size < (w3.alloc (.cells #[.slice A3 n3 c3] 27)).heap.size := by simp
                have HX := Lib.hid (And.intro K3 (And.intro B4 hA4))
                clear h3 B2 B3 hA3 hn3 HD HFa K3 B4 hA4 hr4
                go_wp2_with (
                  at_builtin
                  refine wpList_append_any _ rfl (.tmp 86) (.tmp 87) 62 rfl w.heap.size 5 i0 (.int .u8 0) 1 1 Try.underlying62 hi0 hz0 hz1 hz2 rfl (by decide) (.slice (some ⟨w3.heap.size + 1, 0, none⟩) 0 0) 0 [] rfl (by simpa using World.ownsRow_made (w3.alloc (.cells #[.slice A3 n3 c3] 27)) #[] 0 zb (by simp [maxLen]) (by simp)) w3.heap.size Aa 600 ca (bv BT) rfl HRb.out (bv_ones _) (by simp only [maxLen]; omega) (by omega) (by simp at zb ⊢ <;> omega) ?_
                  intro v2 ub hown2 hg2 _
                  rw [List.nil_append, Nat.zero_add] at hown2
                  obtain ⟨Ab, cb, rfl, hc2, hf2⟩ := own_reads hown2
                  have HFb := Lib.hid hf2
                  have hG : Below (w3.alloc (.cells #[.slice A3 n3 c3] 27)).heap.size (w3.alloc (.cells #[.slice A3 n3 c3] 27)) ub := ((Below.refl (w3.alloc (.cells #[.slice A3 n3 c3] 27)).heap.size (w3.alloc (.cells #[.slice A3 n3 c3] 27))).alloc (Nat.le_refl _) (.cells #[] 5)).grown hg2 (by simp) (fun g hg => by simp [Value.ownBlock] at hg ⊢; omega)
                  have HGb := Lib.hid hG
                  clear hown2 hg2 hc2 hf2 hG HRb)
                have K5 := HX.out.1.below HGb.out z3
                have B5 := HX.out.2.1.trans (HGb.out.mono zb)
                have hA5 := HX.out.2.2.below HGb.out
                clear HX HGb zb z3
                refine (HE.out Ab cb ub HFb.out).mono ?_
                rintro e w6 ⟨A6, n6, c6, rfl, hn6, hc6, hf6, h6⟩
                have K6 := (K5.below h6 K5.lt).alloc (.cells #[.slice A6 n6 c6] 27)
                have l6 := (K5.below h6 K5.lt).lt
                have B6 := B5.trans (h6.mono B5.size)
                have B7 := B6.alloc B6.size (.cells #[.slice A6 n6 c6] 27)
                have hA7 := (hA5.below h6).below ((Below.refl _ _).alloc (Nat.le_refl _) (.cells #[.slice A6 n6 c6] 27))
                have hr7 := (hf6.1.alloc (Nat.le_refl _) (.cells #[.slice A6 n6 c6] 27)).more (B' := (w6.alloc (.cells #[.slice A6 n6 c6] 27)).heap.size) (by simp)
                have K7 := Blk.new w6 27 #[.slice A6 n6 c6]
                have hs := rsame_any A3 A6 n3 c3 n6 c6 L2 L2 _ hA7.1 hr7 (by have := hA7.2.2; unfold maxLen; omega)
                rw [show sameB L2 L2 = true from decide_eq_true rfl] at hs
                have HSm := Lib.hid hs
                have p0 := K6.cell 0
                have p1 := K7.cell 0
                clear hs hA7 hr7 K6 K7 B6 B5 K5 hA5 h6 hf6 hc6 hn6 HE HFb
                go_wp2_with fail
                refine HSm.out.mono ?_
                rintro e w8 ⟨rfl, h8⟩
                have B8 := B7.trans (h8.mono B7.size)
                clear p0 p1 h8 B7 HSm l6
                go_wp2
                go_roundw
                case rel => exact ⟨j + 1, HJ.out.1, HJ.out.2, by go_num, B8⟩
                case measure => have := HJ.out.1; simp [intOf]; omega
              · have hm : m = x.n := by have := HMm.out; omega
                rw [hm] at HXR HBT m0 m600
                clear hm HMm m
                have HD := Lib.hid (fun A c u (h1 : Reads u u.heap.size 1 A x.n (bv BT)) (h2 : x.n ≤ c) => HDd A x.n c BT u HBT.out.1 HBT.out.2 h1 h2 (by omega))
                have HE := Lib.hid (fun A c u (h1 : Reads u u.heap.size 1 A x.n (bv BT)) => rdecode_any A x.n c BT u HBT.out.1 HBT.out.2 h1 (by omega))
                obtain ⟨L2, code, hd⟩ : ∃ L2 code, decodeV BT = (L2, code) := ⟨_, _, rfl⟩
                rw [hd] at HD HE
                clear hd
                have za := hB.size
                have HRa := Lib.hid ((HXR.out _ hB).alloc (Nat.le_refl _) (.cells #[] 5))
                have HBa := Lib.hid hB
                clear hB HXR
                go_wp2_with (
                  at_builtin
                  refine wpList_append_any _ rfl (.tmp 73) (.tmp 78) 62 rfl w.heap.size 5 i0 (.int .u8 0) 1 1 Try.underlying62 hi0 hz0 hz1 hz2 rfl (by decide) (.slice (some ⟨wr.heap.size, 0, none⟩) 0 0) 0 [] rfl (World.ownsRow_made _ _ _ (by omega) (by simp [maxLen]) (by simp)) wr.heap.size x.A x.n x.c (bv BT) rfl HRa.out (bv_ones _) (by simp only [maxLen]; omega) (by omega) (by simp <;> omega) ?_
                  intro v2 ua hown2 hg2 _
                  rw [List.nil_append, Nat.zero_add] at hown2
                  obtain ⟨Aa, ca, rfl, hc2, hf2⟩ := own_reads hown2
                  have HFa := Lib.hid (And.intro hf2 hc2)
                  have HGa := Lib.hid (((Below.refl wr.heap.size wr).alloc (Nat.le_refl _) (.cells #[] 5)).grown hg2 (by simp) (fun g hg => by simp [Value.ownBlock] at hg; omega))
                  clear hown2 hg2 hc2 hf2 HRa)
                have B2 := HBa.out.trans (HGa.out.mono HBa.out.size)
                clear HBa HGa za
                refine (HD.out Aa ca ua HFa.out.1 HFa.out.2).mono ?_
                rintro e w3 ⟨A3, n3, c3, rfl, hn3, hA3, h3⟩
                have B3 := B2.trans (h3.mono B2.size)
                have K3 := Blk.new w3 27 #[.slice A3 n3 c3]
                have B4 := B3.alloc B3.size (.cells #[.slice A3 n3 c3] 27)
                have hA4 := hA3.below ((Below.refl _ _).alloc (Nat.le_refl _) (.cells #[.slice A3 n3 c3] 27))
                have hr4 := ((HFa.out.1.below h3).more h3.size).alloc (Nat.le_refl _) (.cells #[.slice A3 n3 c3] 27)
                have HRb := Lib.hid (hr4.alloc (by simp) (.cells #[] 5))
                have zb := B4.size
                have z3 : w3.heap.size < (w3.alloc (.cells #[.slice A3 n3 c3] 27)).heap.size := by simp
                have HX := Lib.hid (And.intro K3 (And.intro B4 hA4))
                clear h3 B2 B3 hA3 hn3 HD HFa K3 B4 hA4 hr4
                go_wp2_with (
                  at_builtin
                  refine wpList_append_any _ rfl (.tmp 86) (.tmp 87) 62 rfl w.heap.size 5 i0 (.int .u8 0) 1 1 Try.underlying62 hi0 hz0 hz1 hz2 rfl (by decide) (.slice (some ⟨w3.heap.size + 1, 0, none⟩) 0 0) 0 [] rfl (by simpa using World.ownsRow_made (w3.alloc (.cells #[.slice A3 n3 c3] 27)) #[] 0 zb (by simp [maxLen]) (by simp)) w3.heap.size Aa x.n ca (bv BT) rfl HRb.out (bv_ones _) (by simp only [maxLen]; omega) (by omega) (by simp at zb ⊢ <;> omega) ?_
                  intro v2 ub hown2 hg2 _
                  rw [List.nil_append, Nat.zero_add] at hown2
                  obtain ⟨Ab, cb, rfl, hc2, hf2⟩ := own_reads hown2
                  have HFb := Lib.hid hf2
                  have hG : Below (w3.alloc (.cells #[.slice A3 n3 c3] 27)).heap.size (w3.alloc (.cells #[.slice A3 n3 c3] 27)) ub := ((Below.refl (w3.alloc (.cells #[.slice A3 n3 c3] 27)).heap.size (w3.alloc (.cells #[.slice A3 n3 c3] 27))).alloc (Nat.le_refl _) (.cells #[] 5)).grown hg2 (by simp) (fun g hg => by simp [Value.ownBlock] at hg ⊢; omega)
                  have HGb := Lib.hid hG
                  clear hown2 hg2 hc2 hf2 hG HRb)
                have K5 := HX.out.1.below HGb.out z3
                have B5 := HX.out.2.1.trans (HGb.out.mono zb)
                have hA5 := HX.out.2.2.below HGb.out
                clear HX HGb zb z3
                refine (HE.out Ab cb ub HFb.out).mono ?_
                rintro e w6 ⟨A6, n6, c6, rfl, hn6, hc6, hf6, h6⟩
                have K6 := (K5.below h6 K5.lt).alloc (.cells #[.slice A6 n6 c6] 27)
                have l6 := (K5.below h6 K5.lt).lt
                have B6 := B5.trans (h6.mono B5.size)
                have B7 := B6.alloc B6.size (.cells #[.slice A6 n6 c6] 27)
                have hA7 := (hA5.below h6).below ((Below.refl _ _).alloc (Nat.le_refl _) (.cells #[.slice A6 n6 c6] 27))
                have hr7 := (hf6.1.alloc (Nat.le_refl _) (.cells #[.slice A6 n6 c6] 27)).more (B' := (w6.alloc (.cells #[.slice A6 n6 c6] 27)).heap.size) (by simp)
                have K7 := Blk.new w6 27 #[.slice A6 n6 c6]
                have hs := rsame_any A3 A6 n3 c3 n6 c6 L2 L2 _ hA7.1 hr7 (by have := hA7.2.2; unfold maxLen; omega)
                rw [show sameB L2 L2 = true from decide_eq_true rfl] at hs
                have HSm := Lib.hid hs
                have p0 := K6.cell 0
                have p1 := K7.cell 0
                clear hs hA7 hr7 K6 K7 B6 B5 K5 hA5 h6 hf6 hc6 hn6 HE HFb
                go_wp2_with fail
                refine HSm.out.mono ?_
                rintro e w8 ⟨rfl, h8⟩
                have B8 := B7.trans (h8.mono B7.size)
                clear p0 p1 h8 B7 HSm l6
                go_wp2
                go_roundw
                case rel => exact ⟨j + 1, HJ.out.1, HJ.out.2, by go_num, B8⟩
                case measure => have := HJ.out.1; simp [intOf]; omega
          · obtain rfl : n' = j := by omega
            go_wp2
            go_ret
            exact ⟨rfl, hB⟩
      · have g8 : ((k : Int) == 8) = false := by simp; omega
        have HJ := Lib.hid (show k + 1 ≤ n ∧ k + 1 ≤ 8 by omega)
        clear h8 hk8
        have HSx := Lib.hid (fun u (hb : Below w.heap.size w u) => short_any x.A x.n x.c x.l u ((hxo.1.below hb).more hb.size) hxo.2)
        have h9 : (x.l.take 9).length ≤ 9 := List.length_take_le _ _
        have B1 := hB.alloc hsz (.cells #[.slice x.A x.n x.c] 27)
        clear hB hxo
        go_wp2_with fail
        refine (HSx.out _ B1).mono ?_
        rintro e w2 ⟨A2, n2, c2, rfl, hl2, hc2, hr2, h2⟩
        generalize x.l.take 9 = L at hl2 hr2 h9
        have n9 : n2 ≤ 9 := by omega
        have hAt : At w2 A2 n2 c2 L := ⟨hr2.1, hc2, by omega⟩
        have B2 := B1.trans (h2.mono B1.size)
        clear h2 hr2 hl2 hc2 B1 h9 HSx hc
        have K3 := Blk.new w2 27 #[.slice A2 n2 c2]
        have hA3 := hAt.below ((Below.refl _ _).alloc (Nat.le_refl _) (.cells #[.slice A2 n2 c2] 27))
        have B3 := B2.alloc B2.size (.cells #[.slice A2 n2 c2] 27)
        have z3 : (w2.alloc (.cells #[.slice A2 n2 c2] 27)).cell? ⟨w2.heap.size, 0, none⟩ = some (.slice A2 n2 c2) := K3.cell 0
        have HCx := HEn A2 n2 c2 L _ hA3
        clear hAt B2
        cases hr : rightT L with
        | false =>
          rw [show encR L = ([], 160) by unfold encR; rw [hr]; rfl] at HCx
          have HC := Lib.hid HCx
          clear HCx
          go_wp2_with fail
          refine HC.out.mono ?_
          rintro e w4 ⟨A4, n4, c4, rfl, hn4, hc4, hr4, h4⟩
          obtain rfl : n4 = 0 := hn4
          have K4 := K3.below h4 K3.lt
          have B4 := B3.trans (h4.mono B3.size)
          have hRx := rrightT_any A2 n2 c2 L w4 (hA3.below h4).1 (by unfold maxLen; omega)
          rw [hr] at hRx
          have HRx := Lib.hid hRx
          have p0 := K4.cell 0
          clear hRx hc4 hr4 h4 K3 B3 z3 hA3 hr HC
          go_wp2_with fail
          refine HRx.out.mono ?_
          rintro e w5 ⟨rfl, h5⟩
          have B5 := B4.trans (h5.mono B4.size)
          clear p0 h5 K4 B4 HRx
          go_wp2
          go_roundw
          case rel => exact ⟨k + 1, HJ.out.1, HJ.out.2, by go_num, B5⟩
          case measure => have := HJ.out.1; simp [intOf]; omega
        | true =>
          rw [show encR L = (bytesL L, 0) by unfold encR; rw [if_pos hr]] at HCx
          have HC := Lib.hid HCx
          clear HCx
          go_wp2_with fail
          refine HC.out.mono ?_
          rintro e w4 ⟨A4, n4, c4, rfl, hn4, hc4, hr4, h4⟩
          have K4 := K3.below h4 K3.lt
          have B4 := B3.trans (h4.mono B3.size)
          have hA4 := hA3.below h4
          have hRx := rrightT_any A2 n2 c2 L w4 hA4.1 (by unfold maxLen; omega)
          rw [hr] at hRx
          have HRx := Lib.hid hRx
          have p0 := K4.cell 0
          clear hRx hc4 h4 K3 B3 z3 hA3 HC hn4
          go_wp2_with fail
          refine HRx.out.mono ?_
          rintro e w5 ⟨rfl, h5⟩
          have K5 := K4.below h5 K4.lt
          have B5 := B4.trans (h5.mono B4.size)
          have hA5 := hA4.below h5
          have hr5 := (hr4.below h5).more h5.size
          have HBy := Lib.hid (rbytes_any A2 n2 c2 L w5 hA5.1 hr)
          have q0 := K5.cell 0
          clear p0 h5 K4 B4 HRx hA4 hr4 hr hA5
          go_wp2_with fail
          refine HBy.out.mono ?_
          rintro e w6 ⟨A6, n6, c6, rfl, hn6, hc6, hr6, h6⟩
          have B6 := B5.trans (h6.mono B5.size)
          have HQ := Lib.hid (equal_same A4 A6 n4 n6 c4 c6 _ _ (bytesL L) w6 (hr5.below h6) hr6)
          clear q0 h6 K5 B5 HBy hr5 hr6 hc6 hn6
          go_wp2_with fail
          refine HQ.out.mono ?_
          rintro e w' ⟨rfl, rfl⟩
          go_wp2
          go_roundw
          case rel => exact ⟨k + 1, HJ.out.1, HJ.out.2, by go_num, B6⟩
          case measure => have := HJ.out.1; simp [intOf]; omega
    · obtain rfl : n = k := by omega
      clear hk8
      go_wp2_with fail
      go_loopw [66] (fun i wr => ∃ j : Nat, j ≤ n' ∧ j ≤ 12 ∧ i = .int .i64 (j : Int) ∧ Below w.heap.size w wr) (fun i _ => n' - (intOf i).toNat)
      case atStart => exact ⟨0, by omega, by omega, rfl, hB⟩
      case round =>
        clear hB
        obtain ⟨j, hj, hj12, rfl, hB⟩ := hrel
        by_cases hjt : j < n'
        · obtain ⟨ad, v, rfl, _, hx, hc⟩ := (HR'.out.below hB).at_ hjt
          obtain ⟨x, hs, rfl⟩ := innerB_at hx
          have hxo := HOk'.out j x hs
          have j2 : (0 : Int) ≤ (j : Int) := by omega
          have j3 : (j : Int) < (n' : Int) := by omega
          clear hx hs
          by_cases h12 : j = 12
          · have g12 : ((j : Int) == 12) = true := by simp; omega
            clear h12 hj12 hxo
            go_wp2
            go_ret
            exact ⟨rfl, hB⟩
          · have g12 : ((j : Int) == 12) = false := by simp; omega
            have HJ := Lib.hid (show j + 1 ≤ n' ∧ j + 1 ≤ 12 by omega)
            obtain ⟨m, hm⟩ : ∃ m, m = min x.n 600 := ⟨_, rfl⟩
            have hlt : (x.l.take 600).length = m := by rw [List.length_take, hxo.1]; omega
            have hbt : x.l.take 600 = x.l.take m := by rw [hm, ← hxo.1]; simp; omega
            have hby2 : ∀ (k : Nat) (y : Int), (x.l.take 600)[k]? = some y → 0 ≤ y ∧ y < 256 := fun k y hy => by
              rw [List.getElem?_take] at hy
              split at hy
              · exact hxo.2.1 k y hy
              · cases hy
            have HXR : Hid (∀ u, Below w.heap.size w u → Reads u u.heap.size 1 x.A m (bv (x.l.take 600))) := Lib.hid (fun u hb => by
              have := bytes_first ((hxo.2.2.1.below hb).more hb.size) (m := m) (by omega)
              rwa [← hbt] at this)
            have m0 : (m : Int) ≤ (x.c : Int) := by have := hxo.2.2.2; omega
            have m600 : m ≤ 600 := by omega
            have HMm := Lib.hid hm
            have HBT := Lib.hid (And.intro hlt hby2)
            clear h12 hj12 hxo hlt hbt hby2 hm
            generalize x.l.take 600 = BT at HXR HBT
            by_cases h6 : (600 : Int) < (x.n : Int)
            · have hm : m = 600 := by have := HMm.out; omega
              subst hm
              clear m600
              have HD := Lib.hid (fun A c u (h1 : Reads u u.heap.size 1 A 600 (bv BT)) (h2 : 600 ≤ c) => HDd A 600 c BT u HBT.out.1 HBT.out.2 h1 h2 (by omega))
              have HE := Lib.hid (fun A c u (h1 : Reads u u.heap.size 1 A 600 (bv BT)) => rdecode_any A 600 c BT u HBT.out.1 HBT.out.2 h1 (by omega))
              obtain ⟨L2, code, hd⟩ : ∃ L2 code, decodeV BT = (L2, code) := ⟨_, _, rfl⟩
              rw [hd] at HD HE
              clear hd
              have za := hB.size
              have HRa := Lib.hid ((HXR.out _ hB).alloc (Nat.le_refl _) (.cells #[] 5))
              have HBa := Lib.hid hB
              clear hB HXR
              go_wp2_with (
                at_builtin
                refine wpList_append_any _ rfl (.tmp 73) (.tmp 78) 62 rfl w.heap.size 5 i0 (.int .u8 0) 1 1 Try.underlying62 hi0 hz0 hz1 hz2 rfl (by decide) (.slice (some ⟨wr.heap.size, 0, none⟩) 0 0) 0 [] rfl (World.ownsRow_made _ _ _ (by omega) (by simp [maxLen]) (by simp)) wr.heap.size x.A 600 x.c (bv BT) rfl HRa.out (bv_ones _) (by simp only [maxLen]; omega) (by omega) (by simp <;> omega) ?_
                intro v2 ua hown2 hg2 _
                rw [List.nil_append, Nat.zero_add] at hown2
                obtain ⟨Aa, ca, rfl, hc2, hf2⟩ := own_reads hown2
                have HFa := Lib.hid (And.intro hf2 hc2)
                have HGa := Lib.hid (((Below.refl wr.heap.size wr).alloc (Nat.le_refl _) (.cells #[] 5)).grown hg2 (by simp) (fun g hg => by simp [Value.ownBlock] at hg; omega))
                clear hown2 hg2 hc2 hf2 HRa)
              have B2 := HBa.out.trans (HGa.out.mono HBa.out.size)
              clear HBa HGa za
              refine (HD.out Aa ca ua HFa.out.1 HFa.out.2).mono ?_
              rintro e w3 ⟨A3, n3, c3, rfl, hn3, hA3, h3⟩
              have B3 := B2.trans (h3.mono B2.size)
              have K3 := Blk.new w3 27 #[.slice A3 n3 c3]
              have B4 := B3.alloc B3.size (.cells #[.slice A3 n3 c3] 27)
              have hA4 := hA3.below ((Below.refl _ _).alloc (Nat.le_refl _) (.cells #[.slice A3 n3 c3] 27))
              have hr4 := ((HFa.out.1.below h3).more h3.size).alloc (Nat.le_refl _) (.cells #[.slice A3 n3 c3] 27)
              have HRb := Lib.hid (hr4.alloc (by simp) (.cells #[] 5))
              have zb := B4.size
              have z3 : w3.heap.size < (w3.alloc (.cells #[.slice A3 n3 c3] 27)).heap.size := by simp
              have HX := Lib.hid (And.intro K3 (And.intro B4 hA4))
              clear h3 B2 B3 hA3 hn3 HD HFa K3 B4 hA4 hr4
              go_wp2_with (
                at_builtin
                refine wpList_append_any _ rfl (.tmp 86) (.tmp 87) 62 rfl w.heap.size 5 i0 (.int .u8 0) 1 1 Try.underlying62 hi0 hz0 hz1 hz2 rfl (by decide) (.slice (some ⟨w3.heap.size + 1, 0, none⟩) 0 0) 0 [] rfl (by simpa using World.ownsRow_made (w3.alloc (.cells #[.slice A3 n3 c3] 27)) #[] 0 zb (by simp [maxLen]) (by simp)) w3.heap.size Aa 600 ca (bv BT) rfl HRb.out (bv_ones _) (by simp only [maxLen]; omega) (by omega) (by simp at zb ⊢ <;> omega) ?_
                intro v2 ub hown2 hg2 _
                rw [List.nil_append, Nat.zero_add] at hown2
                obtain ⟨Ab, cb, rfl, hc2, hf2⟩ := own_reads hown2
                have HFb := Lib.hid hf2
                have hG : Below (w3.alloc (.cells #[.slice A3 n3 c3] 27)).heap.size (w3.alloc (.cells #[.slice A3 n3 c3] 27)) ub := ((Below.refl (w3.alloc (.cells #[.slice A3 n3 c3] 27)).heap.size (w3.alloc (.cells #[.slice A3 n3 c3] 27))).alloc (Nat.le_refl _) (.cells #[] 5)).grown hg2 (by simp) (fun g hg => by simp [Value.ownBlock] at hg ⊢; omega)
                have HGb := Lib.hid hG
                clear hown2 hg2 hc2 hf2 hG HRb)
              have K5 := HX.out.1.below HGb.out z3
              have B5 := HX.out.2.1.trans (HGb.out.mono zb)
              have hA5 := HX.out.2.2.below HGb.out
              clear HX HGb zb z3
              refine (HE.out Ab cb ub HFb.out).mono ?_
              rintro e w6 ⟨A6, n6, c6, rfl, hn6, hc6, hf6, h6⟩
              have K6 := (K5.below h6 K5.lt).alloc (.cells #[.slice A6 n6 c6] 27)
              have l6 := (K5.below h6 K5.lt).lt
              have B6 := B5.trans (h6.mono B5.size)
              have B7 := B6.alloc B6.size (.cells #[.slice A6 n6 c6] 27)
              have hA7 := (hA5.below h6).below ((Below.refl _ _).alloc (Nat.le_refl _) (.cells #[.slice A6 n6 c6] 27))
              have hr7 := (hf6.1.alloc (Nat.le_refl _) (.cells #[.slice A6 n6 c6] 27)).more (B' := (w6.alloc (.cells #[.slice A6 n6 c6] 27)).heap.size) (by simp)
              have K7 := Blk.new w6 27 #[.slice A6 n6 c6]
              have hs := rsame_any A3 A6 n3 c3 n6 c6 L2 L2 _ hA7.1 hr7 (by have := hA7.2.2; unfold maxLen; omega)
              rw [show sameB L2 L2 = true from decide_eq_true rfl] at hs
              have HSm := Lib.hid hs
              have p0 := K6.cell 0
              have p1 := K7.cell 0
              clear hs hA7 hr7 K6 K7 B6 B5 K5 hA5 h6 hf6 hc6 hn6 HE HFb
              go_wp2_with fail
              refine HSm.out.mono ?_
              rintro e w8 ⟨rfl, h8⟩
              have B8 := B7.trans (h8.mono B7.size)
              clear p0 p1 h8 B7 HSm l6
              go_wp2
              go_roundw
              case rel => exact ⟨j + 1, HJ.out.1, HJ.out.2, by go_num, B8⟩
              case measure => have := HJ.out.1; simp [intOf]; omega
            · have hm : m = x.n := by have := HMm.out; omega
              rw [hm] at HXR HBT m0 m600
              clear hm HMm m
              have HD := Lib.hid (fun A c u (h1 : Reads u u.heap.size 1 A x.n (bv BT)) (h2 : x.n ≤ c) => HDd A x.n c BT u HBT.out.1 HBT.out.2 h1 h2 (by omega))
              have HE := Lib.hid (fun A c u (h1 : Reads u u.heap.size 1 A x.n (bv BT)) => rdecode_any A x.n c BT u HBT.out.1 HBT.out.2 h1 (by omega))
              obtain ⟨L2, code, hd⟩ : ∃ L2 code, decodeV BT = (L2, code) := ⟨_, _, rfl⟩
              rw [hd] at HD HE
              clear hd
              have za := hB.size
              have HRa := Lib.hid ((HXR.out _ hB).alloc (Nat.le_refl _) (.cells #[] 5))
              have HBa := Lib.hid hB
              clear hB HXR
              go_wp2_with (
                at_builtin
                refine wpList_append_any _ rfl (.tmp 73) (.tmp 78) 62 rfl w.heap.size 5 i0 (.int .u8 0) 1 1 Try.underlying62 hi0 hz0 hz1 hz2 rfl (by decide) (.slice (some ⟨wr.heap.size, 0, none⟩) 0 0) 0 [] rfl (World.ownsRow_made _ _ _ (by omega) (by simp [maxLen]) (by simp)) wr.heap.size x.A x.n x.c (bv BT) rfl HRa.out (bv_ones _) (by simp only [maxLen]; omega) (by omega) (by simp <;> omega) ?_
                intro v2 ua hown2 hg2 _
                rw [List.nil_append, Nat.zero_add] at hown2
                obtain ⟨Aa, ca, rfl, hc2, hf2⟩ := own_reads hown2
                have HFa := Lib.hid (And.intro hf2 hc2)
                have HGa := Lib.hid (((Below.refl wr.heap.size wr).alloc (Nat.le_refl _) (.cells #[] 5)).grown hg2 (by simp) (fun g hg => by simp [Value.ownBlock] at hg; omega))
                clear hown2 hg2 hc2 hf2 HRa)
              have B2 := HBa.out.trans (HGa.out.mono HBa.out.size)
              clear HBa HGa za
              refine (HD.out Aa ca ua HFa.out.1 HFa.out.2).mono ?_
              rintro e w3 ⟨A3, n3, c3, rfl, hn3, hA3, h3⟩
              have B3 := B2.trans (h3.mono B2.size)
              have K3 := Blk.new w3 27 #[.slice A3 n3 c3]
              have B4 := B3.alloc B3.size (.cells #[.slice A3 n3 c3] 27)
              have hA4 := hA3.below ((Below.refl _ _).alloc (Nat.le_refl _) (.cells #[.slice A3 n3 c3] 27))
              have hr4 := ((HFa.out.1.below h3).more h3.size).alloc (Nat.le_refl _) (.cells #[.slice A3 n3 c3] 27)
              have HRb := Lib.hid (hr4.alloc (by simp) (.cells #[] 5))
              have zb := B4.size
              have z3 : w3.heap.size < (w3.alloc (.cells #[.slice A3 n3 c3] 27)).heap.size := by simp
              have HX := Lib.hid (And.intro K3 (And.intro B4 hA4))
              clear h3 B2 B3 hA3 hn3 HD HFa K3 B4 hA4 hr4
              go_wp2_with (
                at_builtin
                refine wpList_append_any _ rfl (.tmp 86) (.tmp 87) 62 rfl w.heap.size 5 i0 (.int .u8 0) 1 1 Try.underlying62 hi0 hz0 hz1 hz2 rfl (by decide) (.slice (some ⟨w3.heap.size + 1, 0, none⟩) 0 0) 0 [] rfl (by simpa using World.ownsRow_made (w3.alloc (.cells #[.slice A3 n3 c3] 27)) #[] 0 zb (by simp [maxLen]) (by simp)) w3.heap.size Aa x.n ca (bv BT) rfl HRb.out (bv_ones _) (by simp only [maxLen]; omega) (by omega) (by simp at zb ⊢ <;> omega) ?_
                intro v2 ub hown2 hg2 _
                rw [List.nil_append, Nat.zero_add] at hown2
                obtain ⟨Ab, cb, rfl, hc2, hf2⟩ := own_reads hown2
                have HFb := Lib.hid hf2
                have hG : Below (w3.alloc (.cells #[.slice A3 n3 c3] 27)).heap.size (w3.alloc (.cells #[.slice A3 n3 c3] 27)) ub := ((Below.refl (w3.alloc (.cells #[.slice A3 n3 c3] 27)).heap.size (w3.alloc (.cells #[.slice A3 n3 c3] 27))).alloc (Nat.le_refl _) (.cells #[] 5)).grown hg2 (by simp) (fun g hg => by simp [Value.ownBlock] at hg ⊢; omega)
                have HGb := Lib.hid hG
                clear hown2 hg2 hc2 hf2 hG HRb)
              have K5 := HX.out.1.below HGb.out z3
              have B5 := HX.out.2.1.trans (HGb.out.mono zb)
              have hA5 := HX.out.2.2.below HGb.out
              clear HX HGb zb z3
              refine (HE.out Ab cb ub HFb.out).mono ?_
              rintro e w6 ⟨A6, n6, c6, rfl, hn6, hc6, hf6, h6⟩
              have K6 := (K5.below h6 K5.lt).alloc (.cells #[.slice A6 n6 c6] 27)
              have l6 := (K5.below h6 K5.lt).lt
              have B6 := B5.trans (h6.mono B5.size)
              have B7 := B6.alloc B6.size (.cells #[.slice A6 n6 c6] 27)
              have hA7 := (hA5.below h6).below ((Below.refl _ _).alloc (Nat.le_refl _) (.cells #[.slice A6 n6 c6] 27))
              have hr7 := (hf6.1.alloc (Nat.le_refl _) (.cells #[.slice A6 n6 c6] 27)).more (B' := (w6.alloc (.cells #[.slice A6 n6 c6] 27)).heap.size) (by simp)
              have K7 := Blk.new w6 27 #[.slice A6 n6 c6]
              have hs := rsame_any A3 A6 n3 c3 n6 c6 L2 L2 _ hA7.1 hr7 (by have := hA7.2.2; unfold maxLen; omega)
              rw [show sameB L2 L2 = true from decide_eq_true rfl] at hs
              have HSm := Lib.hid hs
              have p0 := K6.cell 0
              have p1 := K7.cell 0
              clear hs hA7 hr7 K6 K7 B6 B5 K5 hA5 h6 hf6 hc6 hn6 HE HFb
              go_wp2_with fail
              refine HSm.out.mono ?_
              rintro e w8 ⟨rfl, h8⟩
              have B8 := B7.trans (h8.mono B7.size)
              clear p0 p1 h8 B7 HSm l6
              go_wp2
              go_roundw
              case rel => exact ⟨j + 1, HJ.out.1, HJ.out.2, by go_num, B8⟩
              case measure => have := HJ.out.1; simp [intOf]; omega
        · obtain rfl : n' = j := by omega
          go_wp2
          go_ret
          exact ⟨rfl, hB⟩

end Go.Proofs.Ytfalkiinlkfanaa
