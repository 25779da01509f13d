/-
  The landed domain: ids, Of, In, Rate, Weights. No statement is proved here.
-/
import Derived.Test.YtknimnopopnbhaaEd
namespace Go.Proofs.Ytknimnopopnbhaa
open Go.RowKit

/-- the numbers of those of which it holds -/
def idsL (p : Vc → Bool) (us : List Vc) : List Int := (us.filter p).map fun v => v.1
theorem idsL_step {p : Vc → Bool} {us : List Vc} {k : Nat} {x : Vc} (hx : us[k]? = some x) : idsL p (us.take (k + 1)) = idsL p (us.take k) ++ (if p x = true then [x.1] else []) := by
  unfold idsL
  rw [List.take_add_one, hx, List.filter_append, List.map_append]
  congr 1
  by_cases h : p x = true
  · rw [if_pos h]; simp [h]
  · rw [if_neg h]; simp [h]
theorem idsL_le (p : Vc → Bool) (us : List Vc) : (idsL p us).length ≤ us.length := by
  unfold idsL
  rw [List.length_map]
  exact List.length_filter_le _ _
theorem idsL_of (us : List Vc) (dom : Int) : idsL (fun v => v.2.1 == dom) us = ofL us dom := rfl
theorem idsL_in (ds : List Dom) (us : List Vc) (pool : Int) : idsL (fun v => (domV ds v.2.1).1.2.2.2 == pool) us = inL ds us pool := rfl
/-- what the landed calls tell of whom -/
def weighQ (ds : List Dom) (us : List Vc) (pool : Int) : Int := if rightG ds us = true then weighK ds us pool ds.length else 0
theorem weigh_bound {ds : List Dom} {us : List Vc} (h : RightP ds us) (pool : Int) (k : Nat) : 0 ≤ weighK ds us pool k ∧ weighK ds us pool k ≤ 65535 * (k : Int) := by
  induction k with
  | zero => exact ⟨Int.le_refl _, by simp [weighK]⟩
  | succ k ih =>
    unfold weighK
    have h2 : 0 ≤ (ds.getD k zeroD).2.1 ∧ (ds.getD k zeroD).2.1 ≤ 65535 := by
      cases hx : ds[k]? with
      | none => rw [List.getD_eq_getElem?_getD, hx]; exact ⟨Int.le_refl _, by decide⟩
      | some x =>
        rw [dgetD hx]
        have := rightD_iff.1 (h.od x (List.mem_of_getElem? hx))
        omega
    split <;> omega
def idsQ (p : Vc → Bool) (ds : List Dom) (us : List Vc) : List Int := if rightG ds us = true then idsL p us else []

set_option maxRecDepth 100000 in
set_option maxHeartbeats 8000000 in
theorem ids_of_any (A : Option Addr) (n c : Nat) (ds : List Dom) (B : Option Addr) (m d : Nat) (us : List Vc) (p : Vc → Bool) (q1 : Value) (w : World) (hG : GR w A n c ds B m d us)
    (hcl : RightP ds us → ∀ (u : World) (v1 v2 : Int) (v3 v4 : Nat), Below w.heap.size w u → (v1, v2, v3, v4) ∈ us → Calls Try.prog 72 #[.agg #[.int .i64 v1, .int .i64 v2, .int .u32 (v3 : Int), .int .u32 (v4 : Int)], q1] u (Said (.bool (p (v1, v2, v3, v4))) u)) :
    Calls Try.prog 71 #[.agg #[.slice A n c, .slice B m d], .func (.func 72) #[] #[q1]] w (LL (idsQ p ds us) w) := by
  obtain ⟨i0, hi0, hz0, hz1, hz2⟩ := info_parts9 int_info
  have HL := Lib.hid hG.len.2
  have HR := Lib.hid hG.vcs
  have HN := Lib.hid hG.m9
  have HK := Lib.hid (box1 w 25 #[.slice A n c, .slice B m d])
  have HC := Lib.hid (fun (u : World) (h : Below w.heap.size w u) => gcheck_any A n c ds B m d us u (hG.below h))
  have HCl := Lib.hid hcl
  have k1 := HK.out.1.cell 0
  have k2 := HK.out.1.cell 1
  clear hG hcl
  cases hr : rightG ds us with
  | false =>
    rw [show chkG ds us = 190 from if_neg (by rw [hr]; simp)] at HC
    rw [show idsQ p ds us = [] from if_neg (by rw [hr]; simp)]
    clear hr HCl
    go_enter Try.func71, Try.ntmps71
    go_wp2_with fail
    refine (HC.out _ HK.out.2).mono ?_
    rintro e w1 ⟨rfl, h9⟩
    have B1 := HK.out.2.trans (h9.mono HK.out.2.size)
    clear h9 k1 k2
    go_wp2
    go_ret
    exact ⟨none, 0, rfl, Nat.le_refl _, World.ownsRow_nil _ _ _ _, B1⟩
  | true =>
    rw [show chkG ds us = 0 from if_pos hr] at HC
    rw [show idsQ p ds us = idsL p us from if_pos hr]
    have HP := Lib.hid (HCl.out (rightG_iff.1 hr))
    clear hr HCl
    go_enter Try.func71, Try.ntmps71
    go_wp2_with fail
    refine (HC.out _ HK.out.2).mono ?_
    rintro e w1 ⟨rfl, h9⟩
    have B1 := HK.out.2.trans (h9.mono HK.out.2.size)
    have K1 := HK.out.1.below h9 HK.out.1.lt
    have k3 := K1.cell 1
    have HB1 := Lib.hid B1
    clear h9 k1 k2 B1 K1
    go_wp2_with fail
    clear k3
    go_loopw [5, 14] (fun v i wr => ∃ k q : Nat, k ≤ m ∧ i = .int .i64 (k : Int) ∧ Hid (q = (idsL p (us.take k)).length) ∧ Hid (wr.ownsRow (w.heap.size + 1) 3 1 v q (vs (idsL p (us.take k)))) ∧ Below w.heap.size w wr) (fun _ i _ => m - (intOf i).toNat)
    case atStart => exact ⟨0, 0, by omega, rfl, Lib.hid rfl, Lib.hid (World.ownsRow_nil _ _ _ _), HB1.out⟩
    case round =>
      obtain ⟨k, q, hk, rfl, Hq, HO, hB⟩ := hrel
      by_cases hlt : k < m
      · obtain ⟨⟨a, b, h, s⟩, hx⟩ := elem_at (l := us) (k := k) (by rw [HL.out]; exact hlt)
        obtain ⟨ad, rfl, hb, c0, c1, c2, c3⟩ := vc_at (HR.out.below hB) hx
        have hF := idsL_step (p := p) hx
        have HPx := Lib.hid (fun (u : World) (hu : Below w.heap.size w u) => HP.out u a b h s hu (List.mem_of_getElem? hx))
        have j0 : (0 : Int) ≤ (k : Int) := by omega
        have j1 : (k : Int) < (m : Int) := by omega
        have m9 : k < 1000 := by have := HN.out; omega
        have q9 : q ≤ 1000 := by
          have h1 := idsL_le p (us.take k)
          rw [List.length_take] at h1
          rw [Hq.out]
          omega
        have hsz := hB.size
        have KV := Blk.new wr 50 #[.int .i64 a, .int .i64 b, .int .u32 (h : Int), .int .u32 (s : Int)]
        have BV := hB.alloc hB.size (.cells #[.int .i64 a, .int .i64 b, .int .u32 (h : Int), .int .u32 (s : Int)] 50)
        have OV := HO.out.alloc (.cells #[.int .i64 a, .int .i64 b, .int .u32 (h : Int), .int .u32 (s : Int)] 50)
        clear hx
        obtain ⟨A2, c2', rfl, _, _⟩ := own_reads HO.out
        obtain ⟨pb, hpb⟩ : ∃ pb, p (a, b, h, s) = pb := ⟨_, rfl⟩
        rw [hpb] at HPx hF
        clear hpb
        have kv0 := KV.cell 0
        have kv1 := KV.cell 1
        have kv2 := KV.cell 2
        have kv3 := KV.cell 3
        have hvlt := KV.lt
        cases pb with
        | true =>
          rw [if_pos rfl] at hF
          have HF := Lib.hid hF
          clear hF hB
          go_wp2_with fail
          refine (HPx.out _ BV).mono ?_
          rintro e w2 ⟨rfl, h9⟩
          have BW := BV.trans (h9.mono BV.size)
          have KW := KV.below h9 hvlt
          have OW := own_below OV h9
          have kw0 := KW.cell 0
          have hszw := BW.size
          clear h9 KV BV OV kv0 kv1 kv2 kv3 hvlt c0 c1 c2 c3
          have HS := Lib.hid (And.intro OW BW)
          clear OW BW
          go_wp2_with (
            at_builtin
            refine wpList_append_any _ rfl (.tmp 21) (.tmp 24) 39 rfl (w.heap.size + 1) 3 i0 (.int .i64 0) 1 8 Try.underlying39 hi0 hz0 hz1 hz2 rfl (by decide) (.slice A2 q c2') q (vs (idsL p (us.take k))) rfl (HS.out.1.alloc _) _ (some ⟨w2.heap.size, 0, none⟩) 1 1 (vs [a]) rfl (reads_int1 _ 3 a rfl) (vs_ones _) (by simp only [maxLen]; omega) (by omega) (by have := KW.lt; unfold World.alloc; simp <;> omega) ?_
            intro v9 w9 own9 grow9 _
            rw [← vs_append] at own9
            have B9' := HS.out.2.alloc HS.out.2.size (.cells #[.int .i64 a] 3)
            have HT := Lib.hid (And.intro own9 (show Below w.heap.size w w9 from B9'.grown grow9 B9'.size (fun g hg => by have := (HS.out.1.lt g hg).1; omega)))
            clear own9 grow9 B9')
          go_wp2_with fail
          go_roundw
          case rel => exact ⟨k + 1, q + 1, by omega, by go_num, Lib.hid (by rw [HF.out, List.length_append, ← Hq.out]; rfl), Lib.hid (by rw [HF.out]; exact HT.out.1), HT.out.2⟩
          case measure => simp [intOf] <;> omega
        | false =>
          rw [if_neg (by simp), List.append_nil] at hF
          have HF := Lib.hid hF
          clear hF hB
          go_wp2_with fail
          refine (HPx.out _ BV).mono ?_
          rintro e w2 ⟨rfl, h9⟩
          have BW := BV.trans (h9.mono BV.size)
          have OW := Lib.hid (own_below OV h9)
          clear h9 KV BV OV kv0 kv1 kv2 kv3 hvlt c0 c1 c2 c3
          go_wp2
          go_roundw
          case rel => exact ⟨k + 1, q, by omega, by go_num, Lib.hid (by rw [HF.out]; exact Hq.out), Lib.hid (by rw [HF.out]; exact OW.out), BW⟩
          case measure => simp [intOf] <;> omega
      · obtain rfl : m = k := by omega
        obtain ⟨A2, c2, rfl, hc2, _⟩ := own_reads HO.out
        have HT : Hid (us.take m = us) := Lib.hid (by rw [← HL.out]; exact List.take_length)
        have HE : Hid (q = (idsL p us).length) := Lib.hid (by have := Hq.out; rwa [HT.out] at this)
        have HW : Hid (wr.ownsRow (w.heap.size + 1) 3 1 (.slice A2 q c2) q (vs (idsL p us))) := Lib.hid (by have := HO.out; rwa [HT.out] at this)
        have HC2 := Lib.hid hc2
        clear hc2
        go_wp2
        go_ret
        exact ⟨A2, c2, by rw [← HE.out]; rfl, by rw [← HE.out]; exact HC2.out, by rw [← HE.out]; exact own_down HW.out (by omega), hB⟩

set_option maxRecDepth 100000 in
set_option maxHeartbeats 8000000 in
theorem ids_in_any (A : Option Addr) (n c : Nat) (ds : List Dom) (B : Option Addr) (m d : Nat) (us : List Vc) (p : Vc → Bool) (q1 q2 : Value) (w : World) (hG : GR w A n c ds B m d us)
    (hcl : RightP ds us → ∀ (u : World) (v1 v2 : Int) (v3 v4 : Nat), Below w.heap.size w u → (v1, v2, v3, v4) ∈ us → Calls Try.prog 73 #[.agg #[.int .i64 v1, .int .i64 v2, .int .u32 (v3 : Int), .int .u32 (v4 : Int)], q1, q2] u (Said (.bool (p (v1, v2, v3, v4))) u)) :
    Calls Try.prog 71 #[.agg #[.slice A n c, .slice B m d], .func (.func 73) #[] #[q1, q2]] w (LL (idsQ p ds us) w) := by
  obtain ⟨i0, hi0, hz0, hz1, hz2⟩ := info_parts9 int_info
  have HL := Lib.hid hG.len.2
  have HR := Lib.hid hG.vcs
  have HN := Lib.hid hG.m9
  have HK := Lib.hid (box1 w 25 #[.slice A n c, .slice B m d])
  have HC := Lib.hid (fun (u : World) (h : Below w.heap.size w u) => gcheck_any A n c ds B m d us u (hG.below h))
  have HCl := Lib.hid hcl
  have k1 := HK.out.1.cell 0
  have k2 := HK.out.1.cell 1
  clear hG hcl
  cases hr : rightG ds us with
  | false =>
    rw [show chkG ds us = 190 from if_neg (by rw [hr]; simp)] at HC
    rw [show idsQ p ds us = [] from if_neg (by rw [hr]; simp)]
    clear hr HCl
    go_enter Try.func71, Try.ntmps71
    go_wp2_with fail
    refine (HC.out _ HK.out.2).mono ?_
    rintro e w1 ⟨rfl, h9⟩
    have B1 := HK.out.2.trans (h9.mono HK.out.2.size)
    clear h9 k1 k2
    go_wp2
    go_ret
    exact ⟨none, 0, rfl, Nat.le_refl _, World.ownsRow_nil _ _ _ _, B1⟩
  | true =>
    rw [show chkG ds us = 0 from if_pos hr] at HC
    rw [show idsQ p ds us = idsL p us from if_pos hr]
    have HP := Lib.hid (HCl.out (rightG_iff.1 hr))
    clear hr HCl
    go_enter Try.func71, Try.ntmps71
    go_wp2_with fail
    refine (HC.out _ HK.out.2).mono ?_
    rintro e w1 ⟨rfl, h9⟩
    have B1 := HK.out.2.trans (h9.mono HK.out.2.size)
    have K1 := HK.out.1.below h9 HK.out.1.lt
    have k3 := K1.cell 1
    have HB1 := Lib.hid B1
    clear h9 k1 k2 B1 K1
    go_wp2_with fail
    clear k3
    go_loopw [5, 14] (fun v i wr => ∃ k q : Nat, k ≤ m ∧ i = .int .i64 (k : Int) ∧ Hid (q = (idsL p (us.take k)).length) ∧ Hid (wr.ownsRow (w.heap.size + 1) 3 1 v q (vs (idsL p (us.take k)))) ∧ Below w.heap.size w wr) (fun _ i _ => m - (intOf i).toNat)
    case atStart => exact ⟨0, 0, by omega, rfl, Lib.hid rfl, Lib.hid (World.ownsRow_nil _ _ _ _), HB1.out⟩
    case round =>
      obtain ⟨k, q, hk, rfl, Hq, HO, hB⟩ := hrel
      by_cases hlt : k < m
      · obtain ⟨⟨a, b, h, s⟩, hx⟩ := elem_at (l := us) (k := k) (by rw [HL.out]; exact hlt)
        obtain ⟨ad, rfl, hb, c0, c1, c2, c3⟩ := vc_at (HR.out.below hB) hx
        have hF := idsL_step (p := p) hx
        have HPx := Lib.hid (fun (u : World) (hu : Below w.heap.size w u) => HP.out u a b h s hu (List.mem_of_getElem? hx))
        have j0 : (0 : Int) ≤ (k : Int) := by omega
        have j1 : (k : Int) < (m : Int) := by omega
        have m9 : k < 1000 := by have := HN.out; omega
        have q9 : q ≤ 1000 := by
          have h1 := idsL_le p (us.take k)
          rw [List.length_take] at h1
          rw [Hq.out]
          omega
        have hsz := hB.size
        have KV := Blk.new wr 50 #[.int .i64 a, .int .i64 b, .int .u32 (h : Int), .int .u32 (s : Int)]
        have BV := hB.alloc hB.size (.cells #[.int .i64 a, .int .i64 b, .int .u32 (h : Int), .int .u32 (s : Int)] 50)
        have OV := HO.out.alloc (.cells #[.int .i64 a, .int .i64 b, .int .u32 (h : Int), .int .u32 (s : Int)] 50)
        clear hx
        obtain ⟨A2, c2', rfl, _, _⟩ := own_reads HO.out
        obtain ⟨pb, hpb⟩ : ∃ pb, p (a, b, h, s) = pb := ⟨_, rfl⟩
        rw [hpb] at HPx hF
        clear hpb
        have kv0 := KV.cell 0
        have kv1 := KV.cell 1
        have kv2 := KV.cell 2
        have kv3 := KV.cell 3
        have hvlt := KV.lt
        cases pb with
        | true =>
          rw [if_pos rfl] at hF
          have HF := Lib.hid hF
          clear hF hB
          go_wp2_with fail
          refine (HPx.out _ BV).mono ?_
          rintro e w2 ⟨rfl, h9⟩
          have BW := BV.trans (h9.mono BV.size)
          have KW := KV.below h9 hvlt
          have OW := own_below OV h9
          have kw0 := KW.cell 0
          have hszw := BW.size
          clear h9 KV BV OV kv0 kv1 kv2 kv3 hvlt c0 c1 c2 c3
          have HS := Lib.hid (And.intro OW BW)
          clear OW BW
          go_wp2_with (
            at_builtin
            refine wpList_append_any _ rfl (.tmp 21) (.tmp 24) 39 rfl (w.heap.size + 1) 3 i0 (.int .i64 0) 1 8 Try.underlying39 hi0 hz0 hz1 hz2 rfl (by decide) (.slice A2 q c2') q (vs (idsL p (us.take k))) rfl (HS.out.1.alloc _) _ (some ⟨w2.heap.size, 0, none⟩) 1 1 (vs [a]) rfl (reads_int1 _ 3 a rfl) (vs_ones _) (by simp only [maxLen]; omega) (by omega) (by have := KW.lt; unfold World.alloc; simp <;> omega) ?_
            intro v9 w9 own9 grow9 _
            rw [← vs_append] at own9
            have B9' := HS.out.2.alloc HS.out.2.size (.cells #[.int .i64 a] 3)
            have HT := Lib.hid (And.intro own9 (show Below w.heap.size w w9 from B9'.grown grow9 B9'.size (fun g hg => by have := (HS.out.1.lt g hg).1; omega)))
            clear own9 grow9 B9')
          go_wp2_with fail
          go_roundw
          case rel => exact ⟨k + 1, q + 1, by omega, by go_num, Lib.hid (by rw [HF.out, List.length_append, ← Hq.out]; rfl), Lib.hid (by rw [HF.out]; exact HT.out.1), HT.out.2⟩
          case measure => simp [intOf] <;> omega
        | false =>
          rw [if_neg (by simp), List.append_nil] at hF
          have HF := Lib.hid hF
          clear hF hB
          go_wp2_with fail
          refine (HPx.out _ BV).mono ?_
          rintro e w2 ⟨rfl, h9⟩
          have BW := BV.trans (h9.mono BV.size)
          have OW := Lib.hid (own_below OV h9)
          clear h9 KV BV OV kv0 kv1 kv2 kv3 hvlt c0 c1 c2 c3
          go_wp2
          go_roundw
          case rel => exact ⟨k + 1, q, by omega, by go_num, Lib.hid (by rw [HF.out]; exact Hq.out), Lib.hid (by rw [HF.out]; exact OW.out), BW⟩
          case measure => simp [intOf] <;> omega
      · obtain rfl : m = k := by omega
        obtain ⟨A2, c2, rfl, hc2, _⟩ := own_reads HO.out
        have HT : Hid (us.take m = us) := Lib.hid (by rw [← HL.out]; exact List.take_length)
        have HE : Hid (q = (idsL p us).length) := Lib.hid (by have := Hq.out; rwa [HT.out] at this)
        have HW : Hid (wr.ownsRow (w.heap.size + 1) 3 1 (.slice A2 q c2) q (vs (idsL p us))) := Lib.hid (by have := HO.out; rwa [HT.out] at this)
        have HC2 := Lib.hid hc2
        clear hc2
        go_wp2
        go_ret
        exact ⟨A2, c2, by rw [← HE.out]; rfl, by rw [← HE.out]; exact HC2.out, by rw [← HE.out]; exact own_down HW.out (by omega), hB⟩

theorem field_pool (x1 x2 x3 x4 : Int) (u : World) : (Sem.run Try.prog (Instr.field 27 (.agg #[.int .i64 x1, .int .i64 x2, .int .i64 x3, .int .i64 x4]) 3) u) = .ok (.int .i64 x4) u := by kernel_rfl
theorem field_weight (x1 x2 x3 x4 : Int) (u : World) : (Sem.run Try.prog (Instr.field 27 (.agg #[.int .i64 x1, .int .i64 x2, .int .i64 x3, .int .i64 x4]) 1) u) = .ok (.int .i64 x2) u := by kernel_rfl
set_option maxRecDepth 100000 in
set_option maxHeartbeats 1000000 in
theorem ofclo_any (bd : Nat) (v1 v2 : Int) (v3 v4 : Nat) (dom : Int) (w : World) (hd : w.cell? ⟨bd, 0, none⟩ = some (.int .i64 dom)) :
    Calls Try.prog 72 #[.agg #[.int .i64 v1, .int .i64 v2, .int .u32 (v3 : Int), .int .u32 (v4 : Int)], .pointer (some ⟨bd, 0, none⟩)] w (Said (.bool (v2 == dom)) w) := by
  have HK := Lib.hid (box1 w 50 #[.int .i64 v1, .int .i64 v2, .int .u32 (v3 : Int), .int .u32 (v4 : Int)])
  have hlt : bd < w.heap.size := by
    rcases Nat.lt_or_ge bd w.heap.size with h | h
    · exact h
    · simp [World.cell?, Array.getElem?_eq_none h] at hd
  have k1 := HK.out.1.cell 1
  have k2 := (HK.out.2.cell (p := ⟨bd, 0, none⟩) hlt).trans hd
  have HB := Lib.hid HK.out.2
  obtain ⟨W, hW⟩ : ∃ W, w.alloc (.cells #[.int .i64 v1, .int .i64 v2, .int .u32 (v3 : Int), .int .u32 (v4 : Int)] 50) = W := ⟨_, rfl⟩
  rw [hW] at k1 k2 HB
  have HW := Lib.hid hW
  clear hd hlt hW HK
  go_enter Try.func72, Try.ntmps72
  go_upto_region 1 with fail
  rw [HW.out]
  go_wp2
  go_ret
  exact ⟨rfl, HB.out⟩

set_option maxRecDepth 100000 in
set_option maxHeartbeats 4000000 in
theorem inclo_any (A : Option Addr) (n c : Nat) (ds : List Dom) (B : Option Addr) (m d : Nat) (us : List Vc) (bg bp : Nat) (v1 v2 : Int) (v3 v4 : Nat) (pool : Int) (w : World) (hG : GR w A n c ds B m d us) (hP : RightP ds us) (hv : (v1, v2, v3, v4) ∈ us)
    (kg : w.cell? ⟨bg, 0, none⟩ = some (.slice A n c)) (kg1 : w.cell? ⟨bg, 1, none⟩ = some (.slice B m d)) (kp : w.cell? ⟨bp, 0, none⟩ = some (.int .i64 pool)) (lg : bg < w.heap.size) (lp : bp < w.heap.size) :
    Calls Try.prog 73 #[.agg #[.int .i64 v1, .int .i64 v2, .int .u32 (v3 : Int), .int .u32 (v4 : Int)], .pointer (some ⟨bg, 0, none⟩), .pointer (some ⟨bp, 0, none⟩)] w (Said (.bool ((domV ds v2).1.2.2.2 == pool)) w) := by
  obtain ⟨x, hx⟩ := kf_is (hP.ov _ hv).2.2.1
  have HOw := Lib.hid (fun (u : World) (h : Below w.heap.size w u) => owner_any A n c ds B m d us v1 v2 v3 v4 x u (hG.below h) hP.rd hx)
  rw [show domV ds v2 = (x, true) from domV_some hx]
  obtain ⟨x1, x2, x3, x4⟩ := x
  replace HOw : Hid (∀ (u : World), Below w.heap.size w u → Calls Try.prog 74 #[.agg #[.slice A n c, .slice B m d], .agg #[.int .i64 v1, .int .i64 v2, .int .u32 (v3 : Int), .int .u32 (v4 : Int)]] u (Said (.agg #[.int .i64 x1, .int .i64 x2, .int .i64 x3, .int .i64 x4]) u)) := HOw
  have HK := Lib.hid (box1 w 50 #[.int .i64 v1, .int .i64 v2, .int .u32 (v3 : Int), .int .u32 (v4 : Int)])
  have HKs := Lib.hid (fun (u : World) (h : Below w.heap.size w u) => And.intro ((h.cell (p := ⟨bg, 0, none⟩) lg).trans kg) (And.intro ((h.cell (p := ⟨bg, 1, none⟩) lg).trans kg1) ((h.cell (p := ⟨bp, 0, none⟩) lp).trans kp)))
  clear hG hP hv kg kg1 kp lg lp hx
  go_enter Try.func73, Try.ntmps73
  go_upto_region 1 with fail
  have B0 := HK.out.2.drew
  have K0 : Blk (w.alloc (.cells #[.int .i64 v1, .int .i64 v2, .int .u32 (v3 : Int), .int .u32 (v4 : Int)] 50)).drew w.heap.size 50 #[.int .i64 v1, .int .i64 v2, .int .u32 (v3 : Int), .int .u32 (v4 : Int)] := HK.out.1
  clear HK
  refine wp_region_held_drew (S := fun u => Below w.heap.size w u ∧ Blk u w.heap.size 50 #[.int .i64 v1, .int .i64 v2, .int .u32 (v3 : Int), .int .u32 (v4 : Int)]) (by kernel_rfl) ⟨B0, K0⟩ (fun hS => ?_)
  generalize (w.alloc (.cells #[.int .i64 v1, .int .i64 v2, .int .u32 (v3 : Int), .int .u32 (v4 : Int)] 50)).drew = V at B0 K0 hS ⊢
  refine wpAnyH_take (i := 0) (v := .agg #[.slice A n c, .slice B m d]) rfl (by kernel_rfl) (by kernel_rfl) (by kernel_rfl) (fun _ _ _ h => h) (Or.inl ⟨by kernel_rfl, fun u hSw => (by have q := (HKs.out u hSw.1).1; have q1 := (HKs.out u hSw.1).2.1; go_simp)⟩) hS ?_
  change wpAnyH _ _ _ _ _ _ _ (Act.put _ (some 5) _) _
  simp only [Act.put]
  refine wpAnyH_take (i := 1) (v := .agg #[.int .i64 v1, .int .i64 v2, .int .u32 (v3 : Int), .int .u32 (v4 : Int)]) rfl (by kernel_rfl) (by kernel_rfl) (by kernel_rfl) (fun _ _ _ h => h) (Or.inl ⟨by kernel_rfl, fun u hSw => (by have q0 := hSw.2.cell 0; have q1 := hSw.2.cell 1; have q2 := hSw.2.cell 2; have q3 := hSw.2.cell 3; go_simp)⟩) hS ?_
  change wpAnyH _ _ _ _ _ _ _ (Act.put _ (some 6) _) _
  simp only [Act.put]
  refine wpAnyH_take (i := 4) (v := .int .i64 pool) rfl (by kernel_rfl) (by kernel_rfl) (by kernel_rfl) (fun _ _ _ h => h) (Or.inl ⟨by kernel_rfl, fun u hSw => (by have q := (HKs.out u hSw.1).2.2; go_simp)⟩) hS ?_
  change wpAnyH _ _ _ _ _ _ _ (Act.put _ (some 9) _) _
  simp only [Act.put]
  refine wpAnyH_ready (rs := [2]) (by kernel_rfl) (by simp) ?_
  refine AllReadyH.cons rfl (fun K hK => ?_) AllReadyH.nil
  go_simp
  refine (HOw.out _ B0).mono ?_
  rintro e1 w1 ⟨rfl, h9⟩
  replace K0 := K0.below h9 K0.lt
  replace B0 := B0.trans (h9.mono B0.size)
  clear h9
  refine hK.out _ _ ⟨B0, K0⟩ (fun hS => ?_)
  clear hK K
  refine wpAnyH_take (i := 3) (v := .int .i64 x4) rfl (by kernel_rfl) (by kernel_rfl) (by kernel_rfl) (fun _ _ _ h => h) (Or.inl ⟨by kernel_rfl, fun u hSw => (by go_simp; rw [field_pool]; rfl)⟩) hS ?_
  change wpAnyH _ _ _ _ _ _ _ (Act.put _ (some 8) _) _
  simp only [Act.put]
  refine wpAnyH_take (i := 5) (v := .bool (x4 == pool)) rfl (by kernel_rfl) (by kernel_rfl) (by kernel_rfl) (fun _ _ _ h => h) (Or.inl ⟨by kernel_rfl, fun u hSw => (by go_simp)⟩) hS ?_
  change wpAnyH _ _ _ _ _ _ _ (Act.put _ (some 10) _) _
  simp only [Act.put]
  refine wpAnyH_take (i := 6) (v := .bool (x4 == pool)) rfl (by kernel_rfl) (by kernel_rfl) (by kernel_rfl) (fun _ _ _ h => h) (Or.inl ⟨by kernel_rfl, fun u hSw => (by go_simp)⟩) hS ?_
  change wpAnyH _ _ _ _ _ _ _ (Act.put _ (some 4) _) _
  simp only [Act.put]
  refine wpAnyH_done (by kernel_rfl) ?_ _
  clear hS
  have HE := Lib.hid B0
  clear B0 K0
  go_wp2
  go_ret
  exact ⟨rfl, HE.out⟩

set_option maxRecDepth 100000 in
set_option maxHeartbeats 2000000 in
theorem gof_any (A : Option Addr) (n c : Nat) (ds : List Dom) (B : Option Addr) (m d : Nat) (us : List Vc) (dom : Int) (w : World) (hG : GR w A n c ds B m d us) :
    Calls Try.prog 34 #[.agg #[.slice A n c, .slice B m d], .int .i64 dom] w (LL (idsQ (fun v => v.2.1 == dom) ds us) w) := by
  obtain ⟨J1, J2, J0⟩ := blks2 w 25 3 #[.slice A n c, .slice B m d] #[.int .i64 dom]
  have k0 := J1.cell 0
  have k1 := J1.cell 1
  have HI := Lib.hid (ids_of_any A n c ds B m d us (fun v => v.2.1 == dom) (.pointer (some ⟨w.heap.size + 1, 0, none⟩)) _ (hG.below J0) (fun _ u v1 v2 v3 v4 hu _ => ofclo_any (w.heap.size + 1) v1 v2 v3 v4 dom u ((J2.below hu J2.lt).cell 0)))
  have HB := Lib.hid J0
  generalize idsQ _ ds us = L at HI ⊢
  have HZ : Hid (((w.alloc (.cells #[.slice A n c, .slice B m d] 25)).alloc (.cells #[.int .i64 dom] 3)).heap.size = w.heap.size + 1 + 1) := Lib.hid (by simp)
  clear J1 J2 J0 hG
  go_enter Try.func34, Try.ntmps34
  go_wp2_with fail
  refine HI.out.mono ?_
  rintro e w1 ⟨A1, c1, rfl, hc1, o1, h9⟩
  have B1 := HB.out.trans (h9.mono HB.out.size)
  rw [HZ.out] at o1
  have HF := Lib.hid (And.intro hc1 (And.intro (own_down o1 (base' := w.heap.size) (by omega)) B1))
  clear hc1 o1 h9 B1 k0 k1
  go_wp2
  go_ret
  exact ⟨A1, c1, rfl, HF.out.1, HF.out.2.1, HF.out.2.2⟩

set_option maxRecDepth 100000 in
set_option maxHeartbeats 2000000 in
theorem gin_any (A : Option Addr) (n c : Nat) (ds : List Dom) (B : Option Addr) (m d : Nat) (us : List Vc) (pool : Int) (w : World) (hG : GR w A n c ds B m d us) :
    Calls Try.prog 35 #[.agg #[.slice A n c, .slice B m d], .int .i64 pool] w (LL (idsQ (fun v => (domV ds v.2.1).1.2.2.2 == pool) ds us) w) := by
  obtain ⟨J1, J2, J0⟩ := blks2 w 25 3 #[.slice A n c, .slice B m d] #[.int .i64 pool]
  have k0 := J1.cell 0
  have k1 := J1.cell 1
  have HI := Lib.hid (ids_in_any A n c ds B m d us (fun v => (domV ds v.2.1).1.2.2.2 == pool) (.pointer (some ⟨w.heap.size, 0, none⟩)) (.pointer (some ⟨w.heap.size + 1, 0, none⟩)) _ (hG.below J0) (fun hP u v1 v2 v3 v4 hu hv => by
    have K1 := J1.below hu J1.lt
    have K2 := J2.below hu J2.lt
    exact inclo_any A n c ds B m d us w.heap.size (w.heap.size + 1) v1 v2 v3 v4 pool u ((hG.below J0).below hu) hP hv (K1.cell 0) (K1.cell 1) (K2.cell 0) K1.lt K2.lt))
  have HB := Lib.hid J0
  generalize idsQ _ ds us = L at HI ⊢
  have HZ : Hid (((w.alloc (.cells #[.slice A n c, .slice B m d] 25)).alloc (.cells #[.int .i64 pool] 3)).heap.size = w.heap.size + 1 + 1) := Lib.hid (by simp)
  clear J1 J2 J0 hG
  go_enter Try.func35, Try.ntmps35
  go_wp2_with fail
  refine HI.out.mono ?_
  rintro e w1 ⟨A1, c1, rfl, hc1, o1, h9⟩
  have B1 := HB.out.trans (h9.mono HB.out.size)
  rw [HZ.out] at o1
  have HF := Lib.hid (And.intro hc1 (And.intro (own_down o1 (base' := w.heap.size) (by omega)) B1))
  clear hc1 o1 h9 B1 k0 k1
  go_wp2
  go_ret
  exact ⟨A1, c1, rfl, HF.out.1, HF.out.2.1, HF.out.2.2⟩

theorem vcV_of {us : List Vc} {id : Int} {x : Vc} (h : vcV us id = (x, true)) : kf us id = some x := by
  unfold vcV at h
  rw [vcF_kf] at h
  cases hf : kf us id with
  | none => rw [hf] at h; simp at h
  | some y => rw [hf] at h; simp at h; rw [h]
def rateQ (ds : List Dom) (us : List Vc) (id : Int) : Int × Nat × Bool := if (vcQ ds us id).2 = true then ((domV ds (vcQ ds us id).1.2.1).1.2.1, (ofL us (vcQ ds us id).1.2.1).length, true) else (0, 0, false)

set_option maxRecDepth 100000 in
set_option maxHeartbeats 8000000 in
theorem grate_any (A : Option Addr) (n c : Nat) (ds : List Dom) (B : Option Addr) (m d : Nat) (us : List Vc) (id : Int) (w : World) (hG : GR w A n c ds B m d us) :
    Calls Try.prog 36 #[.agg #[.slice A n c, .slice B m d], .int .i64 id] w (Said (.tuple #[.int .i64 (rateQ ds us id).1, .int .i64 ((rateQ ds us id).2.1 : Nat), .bool (rateQ ds us id).2.2]) w) := by
  have HK := Lib.hid (box1 w 25 #[.slice A n c, .slice B m d])
  have HV := Lib.hid (fun (u : World) (h : Below w.heap.size w u) => vtell_any A n c ds B m d us id u (hG.below h))
  have HG := Lib.hid hG
  have k1 := HK.out.1.cell 0
  have k2 := HK.out.1.cell 1
  clear hG
  obtain ⟨⟨⟨v1, v2, v3, v4⟩, th⟩, hv⟩ : ∃ r, vcQ ds us id = r := ⟨_, rfl⟩
  rw [hv] at HV
  cases th with
  | false =>
    have HE : Hid (rateQ ds us id = (0, 0, false)) := Lib.hid (by unfold rateQ; rw [hv]; rfl)
    clear hv
    go_enter Try.func36, Try.ntmps36
    go_wp2_with fail
    refine (HV.out _ HK.out.2).mono ?_
    rintro e w1 ⟨rfl, h9⟩
    have B1 := HK.out.2.trans (h9.mono HK.out.2.size)
    have B2 := B1.alloc B1.size (.cells #[.int .i64 v1, .int .i64 v2, .int .u32 (v3 : Int), .int .u32 (v4 : Int)] 50)
    clear h9 k1 k2 B1
    go_wp2
    go_ret3
    exact ⟨by rw [HE.out]; rfl, B2⟩
  | true =>
    have hr : rightG ds us = true := by
      cases hr : rightG ds us with
      | true => rfl
      | false => unfold vcQ at hv; rw [if_neg (by rw [hr]; simp)] at hv; cases hv
    have hP := rightG_iff.1 hr
    have hm : (v1, v2, v3, v4) ∈ us := by
      unfold vcQ at hv
      rw [if_pos hr] at hv
      exact (kf_some (vcV_of hv)).1
    obtain ⟨⟨x1, x2, x3, x4⟩, hx⟩ := kf_is (hP.ov _ hm).2.2.1
    have HE : Hid (rateQ ds us id = (x2, (ofL us v2).length, true)) := Lib.hid (by
      unfold rateQ
      rw [hv, if_pos rfl]
      show ((domV ds v2).1.2.1, (ofL us v2).length, true) = _
      rw [domV_some hx])
    have HOw : Hid (∀ (u : World), Below w.heap.size w u → Calls Try.prog 74 #[.agg #[.slice A n c, .slice B m d], .agg #[.int .i64 v1, .int .i64 v2, .int .u32 (v3 : Int), .int .u32 (v4 : Int)]] u (Said (.agg #[.int .i64 x1, .int .i64 x2, .int .i64 x3, .int .i64 x4]) u)) := Lib.hid (fun u h => owner_any A n c ds B m d us v1 v2 v3 v4 (x1, x2, x3, x4) u (HG.out.below h) hP.rd hx)
    have HCo := Lib.hid (fun (u : World) (h : Below w.heap.size w u) => count_any A n c ds B m d us v2 u (HG.out.below h))
    obtain ⟨Q, hQ⟩ : ∃ Q, (ofL us v2).length = Q := ⟨_, rfl⟩
    rw [hQ] at HCo HE
    clear hv hr hP hm hx hQ HG
    go_enter Try.func36, Try.ntmps36
    go_wp2_with fail
    refine (HV.out _ HK.out.2).mono ?_
    rintro e w1 ⟨rfl, h9⟩
    have B1 := HK.out.2.trans (h9.mono HK.out.2.size)
    have K1 := HK.out.1.below h9 HK.out.1.lt
    have KV := Blk.new w1 50 #[.int .i64 v1, .int .i64 v2, .int .u32 (v3 : Int), .int .u32 (v4 : Int)]
    have B0 := (B1.alloc B1.size (.cells #[.int .i64 v1, .int .i64 v2, .int .u32 (v3 : Int), .int .u32 (v4 : Int)] 50)).drew
    have K0 := K1.alloc (.cells #[.int .i64 v1, .int .i64 v2, .int .u32 (v3 : Int), .int .u32 (v4 : Int)] 50)
    clear h9 k1 k2 B1 K1
    go_upto_region 4 with fail
    generalize w1.heap.size = gv at KV ⊢
    generalize w1.alloc (.cells #[.int .i64 v1, .int .i64 v2, .int .u32 (v3 : Int), .int .u32 (v4 : Int)] 50) = W9 at KV B0 K0 ⊢
    replace K0 : Blk W9.drew _ _ _ := K0
    replace KV : Blk W9.drew _ _ _ := KV
    refine wp_region_held_drew (S := fun u => Below w.heap.size w u ∧ Blk u w.heap.size 25 #[.slice A n c, .slice B m d] ∧ Blk u gv 50 #[.int .i64 v1, .int .i64 v2, .int .u32 (v3 : Int), .int .u32 (v4 : Int)]) (by kernel_rfl) ⟨B0, K0, KV⟩ (fun hS => ?_)
    generalize W9.drew = V at B0 K0 KV hS ⊢
    refine wpAnyH_take (i := 0) (v := .agg #[.slice A n c, .slice B m d]) rfl (by kernel_rfl) (by kernel_rfl) (by kernel_rfl) (fun _ _ _ h => h) (Or.inl ⟨by kernel_rfl, fun u hSw => (by have q := hSw.2.1.cell 0; have q1 := hSw.2.1.cell 1; go_simp)⟩) hS ?_
    change wpAnyH _ _ _ _ _ _ _ (Act.put _ (some 17) _) _
    simp only [Act.put]
    refine wpAnyH_take (i := 1) (v := .agg #[.int .i64 v1, .int .i64 v2, .int .u32 (v3 : Int), .int .u32 (v4 : Int)]) rfl (by kernel_rfl) (by kernel_rfl) (by kernel_rfl) (fun _ _ _ h => h) (Or.inl ⟨by kernel_rfl, fun u hSw => (by have q0 := hSw.2.2.cell 0; have q1 := hSw.2.2.cell 1; have q2 := hSw.2.2.cell 2; have q3 := hSw.2.2.cell 3; go_simp)⟩) hS ?_
    change wpAnyH _ _ _ _ _ _ _ (Act.put _ (some 18) _) _
    simp only [Act.put]
    refine wpAnyH_take (i := 4) (v := .agg #[.slice A n c, .slice B m d]) rfl (by kernel_rfl) (by kernel_rfl) (by kernel_rfl) (fun _ _ _ h => h) (Or.inl ⟨by kernel_rfl, fun u hSw => (by have q := hSw.2.1.cell 0; have q1 := hSw.2.1.cell 1; go_simp)⟩) hS ?_
    change wpAnyH _ _ _ _ _ _ _ (Act.put _ (some 21) _) _
    simp only [Act.put]
    refine wpAnyH_take (i := 5) (v := .pointer (some ⟨gv, 1, none⟩)) rfl (by kernel_rfl) (by kernel_rfl) (by kernel_rfl) (fun _ _ _ h => h) (Or.inl ⟨by kernel_rfl, fun u hSw => (by go_simp)⟩) hS ?_
    change wpAnyH _ _ _ _ _ _ _ (Act.put _ (some 22) _) _
    simp only [Act.put]
    refine wpAnyH_take (i := 6) (v := .int .i64 v2) rfl (by kernel_rfl) (by kernel_rfl) (by kernel_rfl) (fun _ _ _ h => h) (Or.inl ⟨by kernel_rfl, fun u hSw => (by have q := hSw.2.2.cell 1; go_simp)⟩) hS ?_
    change wpAnyH _ _ _ _ _ _ _ (Act.put _ (some 23) _) _
    simp only [Act.put]
    refine wpAnyH_ready (rs := [2]) (by kernel_rfl) (by simp) ?_
    refine AllReadyH.cons rfl (fun K hK => ?_) AllReadyH.nil
    go_simp
    refine (HOw.out _ B0).mono ?_
    rintro e1 w2 ⟨rfl, h9⟩
    replace K0 := K0.below h9 K0.lt
    replace KV := KV.below h9 KV.lt
    replace B0 := B0.trans (h9.mono B0.size)
    clear h9
    refine hK.out _ _ ⟨B0, K0, KV⟩ (fun hS => ?_)
    clear hK K
    refine wpAnyH_take (i := 3) (v := .int .i64 x2) rfl (by kernel_rfl) (by kernel_rfl) (by kernel_rfl) (fun _ _ _ h => h) (Or.inl ⟨by kernel_rfl, fun u hSw => (by go_simp; rw [field_weight]; rfl)⟩) hS ?_
    change wpAnyH _ _ _ _ _ _ _ (Act.put _ (some 20) _) _
    simp only [Act.put]
    refine wpAnyH_ready (rs := [7]) (by kernel_rfl) (by simp) ?_
    refine AllReadyH.cons rfl (fun K hK => ?_) AllReadyH.nil
    go_simp
    refine (HCo.out _ B0).mono ?_
    rintro e1 w2 ⟨rfl, h9⟩
    replace K0 := K0.below h9 K0.lt
    replace KV := KV.below h9 KV.lt
    replace B0 := B0.trans (h9.mono B0.size)
    clear h9
    refine hK.out _ _ ⟨B0, K0, KV⟩ (fun hS => ?_)
    clear hK K
    refine wpAnyH_take (i := 8) (v := .int .i64 x2) rfl (by kernel_rfl) (by kernel_rfl) (by kernel_rfl) (fun _ _ _ h => h) (Or.inl ⟨by kernel_rfl, fun u hSw => (by go_simp)⟩) hS ?_
    change wpAnyH _ _ _ _ _ _ _ (Act.put _ (some 4) _) _
    simp only [Act.put]
    refine wpAnyH_take (i := 9) (v := .int .i64 (Q : Int)) rfl (by kernel_rfl) (by kernel_rfl) (by kernel_rfl) (fun _ _ _ h => h) (Or.inl ⟨by kernel_rfl, fun u hSw => (by go_simp)⟩) hS ?_
    change wpAnyH _ _ _ _ _ _ _ (Act.put _ (some 5) _) _
    simp only [Act.put]
    refine wpAnyH_take (i := 10) (v := .bool true) rfl (by kernel_rfl) (by kernel_rfl) (by kernel_rfl) (fun _ _ _ h => h) (Or.inl ⟨by kernel_rfl, fun u hSw => (by go_simp)⟩) hS ?_
    change wpAnyH _ _ _ _ _ _ _ (Act.put _ (some 6) _) _
    simp only [Act.put]
    refine wpAnyH_done (by kernel_rfl) ?_ _
    clear hS
    have HF := Lib.hid B0
    clear B0 K0 KV
    go_wp2
    go_ret3
    exact ⟨by rw [HE.out]; rfl, HF.out⟩

set_option maxRecDepth 100000 in
set_option maxHeartbeats 8000000 in
theorem gweights_any (A : Option Addr) (n c : Nat) (ds : List Dom) (B : Option Addr) (m d : Nat) (us : List Vc) (pool : Int) (w : World) (hG : GR w A n c ds B m d us) :
    Calls Try.prog 37 #[.agg #[.slice A n c, .slice B m d], .int .i64 pool] w (Said (.int .i64 (weighQ ds us pool)) w) := by
  have HL := Lib.hid hG.len.1
  have HR := Lib.hid hG
  have HN := Lib.hid hG.n9
  have HK := Lib.hid (box1 w 25 #[.slice A n c, .slice B m d])
  have HC := Lib.hid (fun (u : World) (h : Below w.heap.size w u) => gcheck_any A n c ds B m d us u (hG.below h))
  have k1 := HK.out.1.cell 0
  have k2 := HK.out.1.cell 1
  clear hG
  cases hr : rightG ds us with
  | false =>
    rw [show chkG ds us = 190 from if_neg (by rw [hr]; simp)] at HC
    have HV : Hid (weighQ ds us pool = 0) := Lib.hid (if_neg (by rw [hr]; simp))
    clear hr
    go_enter Try.func37, Try.ntmps37
    go_wp2_with fail
    refine (HC.out _ HK.out.2).mono ?_
    rintro e w1 ⟨rfl, h9⟩
    have B1 := HK.out.2.trans (h9.mono HK.out.2.size)
    clear h9 k1 k2
    go_wp2
    go_ret
    exact ⟨retI HV.out.symm, B1⟩
  | true =>
    rw [show chkG ds us = 0 from if_pos hr] at HC
    have HV : Hid (weighQ ds us pool = weighK ds us pool n) := Lib.hid ((if_pos hr).trans (by rw [HL.out]))
    have HP := Lib.hid (rightG_iff.1 hr)
    clear hr
    go_enter Try.func37, Try.ntmps37
    go_wp2_with fail
    refine (HC.out _ HK.out.2).mono ?_
    rintro e w1 ⟨rfl, h9⟩
    have B1 := HK.out.2.trans (h9.mono HK.out.2.size)
    have K1 := HK.out.1.below h9 HK.out.1.lt
    have k3 := K1.cell 0
    have HB1 := Lib.hid (And.intro K1 B1)
    clear h9 k1 k2 B1 K1
    go_wp2_with fail
    clear k3
    go_loopw [5, 14] (fun sv iv wr => ∃ (k : Nat) (s : Int), k ≤ n ∧ iv = .int .i64 (k : Int) ∧ sv = .int .i64 s ∧ Hid (s = weighK ds us pool k) ∧ Blk wr w.heap.size 25 #[.slice A n c, .slice B m d] ∧ Below w.heap.size w wr) (fun _ iv _ => n - (intOf iv).toNat)
    case atStart => exact ⟨0, 0, by omega, rfl, rfl, Lib.hid rfl, HB1.out.1, HB1.out.2⟩
    case round =>
      obtain ⟨k, s, hk, rfl, rfl, Hs, KB, GB⟩ := hrel
      by_cases hlt : k < n
      · obtain ⟨⟨x1, x2, x3, x4⟩, hx⟩ := elem_at (l := ds) (k := k) (by rw [HL.out]; exact hlt)
        obtain ⟨ad, rfl, hb, c0, c1, c2, c3⟩ := dom_at (HR.out.doms.below GB) hx
        have hst : weighK ds us pool (k + 1) = weighK ds us pool k + (if x4 = pool ∧ 0 < (ofL us x1).length then x2 else 0) := by
          show weighK ds us pool k + (if (ds.getD k zeroD).2.2.2 = pool ∧ 0 < (ofL us (ds.getD k zeroD).1).length then (ds.getD k zeroD).2.1 else 0) = _
          rw [dgetD hx]
        have hbd := weigh_bound HP.out pool k
        rw [← Hs.out] at hbd hst
        have hw := rightD_iff.1 (HP.out.od _ (List.mem_of_getElem? hx))
        have hw1 : 1 ≤ x2 ∧ x2 ≤ 65535 := ⟨hw.2.2.1, hw.2.2.2.1⟩
        have HCo := Lib.hid (fun (u : World) (h : Below w.heap.size w u) => count_any (some ad) n c ds B m d us x1 u (HR.out.below h))
        obtain ⟨Q, hQ⟩ : ∃ Q, (ofL us x1).length = Q := ⟨_, rfl⟩
        rw [hQ] at HCo hst
        have Q9 : Q ≤ 1000 := by have := ofL_le us x1; have := HR.out.len; have := HR.out.m9; omega
        have j0 : (0 : Int) ≤ (k : Int) := by omega
        have j1 : (k : Int) < (n : Int) := by omega
        have k9 : k < 1000 := by have := HN.out; omega
        have KD := Blk.new wr 27 #[.int .i64 x1, .int .i64 x2, .int .i64 x3, .int .i64 x4]
        have KB1 := KB.alloc (.cells #[.int .i64 x1, .int .i64 x2, .int .i64 x3, .int .i64 x4] 27)
        have GB1 := GB.alloc GB.size (.cells #[.int .i64 x1, .int .i64 x2, .int .i64 x3, .int .i64 x4] 27)
        have hdlt := KD.lt
        clear hx hw hQ
        by_cases hp : x4 = pool
        · have e1 : (x4 == pool) = true := by simp [hp]
          by_cases hq : 0 < Q
          · have HN2 : Hid (s + x2 = weighK ds us pool (k + 1)) := Lib.hid (by rw [hst, if_pos ⟨hp, hq⟩])
            have e2 : decide ((0 : Int) < (Q : Int)) = true := decide_eq_true (by omega)
            have b0 := KB1.cell 0
            have b1 := KB1.cell 1
            clear hst hp
            go_wp2_with fail
            refine (HCo.out _ GB1).mono ?_
            rintro e w2 ⟨rfl, h9⟩
            have KB2 := KB1.below h9 KB1.lt
            have KD2 := KD.below h9 hdlt
            have GB2 := GB1.trans (h9.mono GB1.size)
            have d1 := KD2.cell 1
            clear h9 KD KB1 GB1 b0 b1 KB GB c0 c1 c2 c3
            go_wp2
            go_roundw
            case rel => exact ⟨k + 1, s + x2, by omega, by go_num, by go_num, HN2, KB2, GB2⟩
            case measure => simp [intOf] <;> omega
          · have HN2 : Hid (s = weighK ds us pool (k + 1)) := Lib.hid (by rw [hst, if_neg (fun h => hq h.2)]; omega)
            have e2 : decide ((0 : Int) < (Q : Int)) = false := decide_eq_false (by omega)
            have b0 := KB1.cell 0
            have b1 := KB1.cell 1
            clear hst hp
            go_wp2_with fail
            refine (HCo.out _ GB1).mono ?_
            rintro e w2 ⟨rfl, h9⟩
            have KB2 := KB1.below h9 KB1.lt
            have GB2 := GB1.trans (h9.mono GB1.size)
            clear h9 KD KB1 GB1 b0 b1 KB GB c0 c1 c2 c3
            go_wp2
            go_roundw
            case rel => exact ⟨k + 1, s, by omega, by go_num, rfl, HN2, KB2, GB2⟩
            case measure => simp [intOf] <;> omega
        · have HN2 : Hid (s = weighK ds us pool (k + 1)) := Lib.hid (by rw [hst, if_neg (fun h => hp h.1)]; omega)
          have e1 : (x4 == pool) = false := by simp [hp]
          have GB2 := Lib.hid (And.intro KB1 GB1)
          clear hst hp KD KB1 GB1
          go_wp2
          go_roundw
          case rel => exact ⟨k + 1, s, by omega, by go_num, rfl, HN2, GB2.out.1, GB2.out.2⟩
          case measure => simp [intOf] <;> omega
      · obtain rfl : n = k := by omega
        have HE : Hid (s = weighQ ds us pool) := Lib.hid (by rw [HV.out, Hs.out])
        go_wp2
        go_ret
        exact ⟨retI HE.out, GB⟩

end Go.Proofs.Ytknimnopopnbhaa
