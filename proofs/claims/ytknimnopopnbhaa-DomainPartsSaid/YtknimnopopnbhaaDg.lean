/-
  The contract of the document's Made. No statement is proved here.
-/
import Derived.Test.YtknimnopopnbhaaDe
namespace Go.Proofs.Ytknimnopopnbhaa
open Go.RowKit

theorem blks5 (w : World) (t1 t2 t3 t4 t5 : TypeId) (a b c d e : Array Value) : Blk (((((w.alloc (.cells a t1)).alloc (.cells b t2)).alloc (.cells c t3)).alloc (.cells d t4)).alloc (.cells e t5)) w.heap.size t1 a ∧
    Blk (((((w.alloc (.cells a t1)).alloc (.cells b t2)).alloc (.cells c t3)).alloc (.cells d t4)).alloc (.cells e t5)) (w.heap.size + 1) t2 b ∧ Blk (((((w.alloc (.cells a t1)).alloc (.cells b t2)).alloc (.cells c t3)).alloc (.cells d t4)).alloc (.cells e t5)) (w.heap.size + 1 + 1) t3 c ∧
    Blk (((((w.alloc (.cells a t1)).alloc (.cells b t2)).alloc (.cells c t3)).alloc (.cells d t4)).alloc (.cells e t5)) (w.heap.size + 1 + 1 + 1) t4 d ∧
    Blk (((((w.alloc (.cells a t1)).alloc (.cells b t2)).alloc (.cells c t3)).alloc (.cells d t4)).alloc (.cells e t5)) (w.heap.size + 1 + 1 + 1 + 1) t5 e ∧
    Below w.heap.size w (((((w.alloc (.cells a t1)).alloc (.cells b t2)).alloc (.cells c t3)).alloc (.cells d t4)).alloc (.cells e t5)) := by
  obtain ⟨h1, h2, h3, h4, hb⟩ := blks4 w t1 t2 t3 t4 a b c d
  exact ⟨h1.alloc _, h2.alloc _, h3.alloc _, h4.alloc _, by have := Blk.new ((((w.alloc (.cells a t1)).alloc (.cells b t2)).alloc (.cells c t3)).alloc (.cells d t4)) t5 e; simpa using this, hb.alloc hb.size _⟩
theorem reads_dom1 (w : World) (t : TypeId) (a b c d : Int) {g : Nat} (hg : g = w.heap.size) : Reads (w.alloc (.cells #[.int .i64 a, .int .i64 b, .int .i64 c, .int .i64 d] t)) (w.alloc (.cells #[.int .i64 a, .int .i64 b, .int .i64 c, .int .i64 d] t)).heap.size 4 (some ⟨g, 0, none⟩) 1 (flat dv [(a, b, c, d)]) := by
  subst hg
  refine ⟨rfl, fun _ => ⟨_, rfl, by simp, fun j u hu => ?_⟩⟩
  have hb := Blk.new w t #[.int .i64 a, .int .i64 b, .int .i64 c, .int .i64 d]
  match j, hu with
  | 0, hu => simp [flat, dv] at hu; subst hu; exact hb.cell 0
  | 1, hu => simp [flat, dv] at hu; subst hu; exact hb.cell 1
  | 2, hu => simp [flat, dv] at hu; subst hu; exact hb.cell 2
  | 3, hu => simp [flat, dv] at hu; subst hu; exact hb.cell 3
  | j + 4, hu => simp [flat, dv] at hu
theorem reads_vc1 (w : World) (t : TypeId) (a b : Int) (c d : Nat) {g : Nat} (hg : g = w.heap.size) : Reads (w.alloc (.cells #[.int .i64 a, .int .i64 b, .int .u32 (c : Int), .int .u32 (d : Int)] t)) (w.alloc (.cells #[.int .i64 a, .int .i64 b, .int .u32 (c : Int), .int .u32 (d : Int)] t)).heap.size 4 (some ⟨g, 0, none⟩) 1 (flat cv [(a, b, c, d)]) := by
  subst hg
  refine ⟨rfl, fun _ => ⟨_, rfl, by simp, fun j u hu => ?_⟩⟩
  have hb := Blk.new w t #[.int .i64 a, .int .i64 b, .int .u32 (c : Int), .int .u32 (d : Int)]
  match j, hu with
  | 0, hu => simp [flat, cv] at hu; subst hu; exact hb.cell 0
  | 1, hu => simp [flat, cv] at hu; subst hu; exact hb.cell 1
  | 2, hu => simp [flat, cv] at hu; subst hu; exact hb.cell 2
  | 3, hu => simp [flat, cv] at hu; subst hu; exact hb.cell 3
  | j + 4, hu => simp [flat, cv] at hu
theorem madeD_step {ds : List Dom} {d : Dom} {no : Int} {s : Nat} (hs : 1 ≤ s) : madeD ds d no s = madeD ds d no (s - 1) ++ (if (s : Int) = no then [] else if (s : Int) = d.1 then [d] else (domF ds (s : Int)).toList) := by
  obtain ⟨k, rfl⟩ : ∃ k, s = k + 1 := ⟨s - 1, by omega⟩
  rfl
theorem madeV_step {us : List Vc} {v : Vc} {no : Int} {s : Nat} (hs : 1 ≤ s) : madeV us v no s = madeV us v no (s - 1) ++ (if (s : Int) = no then [] else if 0 < v.2.1 ∧ (s : Int) = v.1 then [v] else (vcF us (s : Int)).toList) := by
  obtain ⟨k, rfl⟩ : ∃ k, s = k + 1 := ⟨s - 1, by omega⟩
  rfl
theorem madeD_len (ds : List Dom) (d : Dom) (no : Int) : ∀ k, (madeD ds d no k).length ≤ k
  | 0 => Nat.le_refl _
  | k + 1 => by
    have := madeD_len ds d no k
    unfold madeD
    rw [List.length_append]
    have h2 : (if ((k + 1 : Nat) : Int) = no then [] else if ((k + 1 : Nat) : Int) = d.1 then [d] else (domF ds ((k + 1 : Nat) : Int)).toList).length ≤ 1 := by
      split
      · simp
      · split
        · simp
        · cases domF ds ((k + 1 : Nat) : Int) <;> simp
    omega
theorem madeV_len (us : List Vc) (v : Vc) (no : Int) : ∀ k, (madeV us v no k).length ≤ k
  | 0 => Nat.le_refl _
  | k + 1 => by
    have := madeV_len us v no k
    unfold madeV
    rw [List.length_append]
    have h2 : (if ((k + 1 : Nat) : Int) = no then [] else if 0 < v.2.1 ∧ ((k + 1 : Nat) : Int) = v.1 then [v] else (vcF us ((k + 1 : Nat) : Int)).toList).length ≤ 1 := by
      split
      · simp
      · split
        · simp
        · cases vcF us ((k + 1 : Nat) : Int) <;> simp
    omega

theorem domV_true {ds : List Dom} {id : Int} {x : Dom} (h : domV ds id = (x, true)) : domF ds id = some x := by
  unfold domV at h
  cases hf : domF ds id with
  | none => rw [hf] at h; simp at h
  | some y => rw [hf] at h; simp at h; rw [h]
theorem domV_false {ds : List Dom} {id : Int} {x : Dom} (h : domV ds id = (x, false)) : domF ds id = none := by
  unfold domV at h
  cases hf : domF ds id with
  | none => rfl
  | some y => rw [hf] at h; simp at h
theorem vcV_true {us : List Vc} {id : Int} {x : Vc} (h : vcV us id = (x, true)) : vcF us id = some x := by
  unfold vcV at h
  cases hf : vcF us id with
  | none => rw [hf] at h; simp at h
  | some y => rw [hf] at h; simp at h; rw [h]
theorem vcV_false {us : List Vc} {id : Int} {x : Vc} (h : vcV us id = (x, false)) : vcF us id = none := by
  unfold vcV at h
  cases hf : vcF us id with
  | none => rfl
  | some y => rw [hf] at h; simp at h
/-- two rows apart, when one has grown -/
theorem row_both {V W : World} {base e s n g : Nat} {v v1 v2 : Value} {xs : List Value} {i : Nat} (h : V.ownsRow base e s v n xs) (hne : ∀ k k', v.ownBlock = some k → v1.ownBlock = some k' → k ≠ k') (hg : V.grownBy W v1.ownBlock)
    (hw : v2.ownBlock = v1.ownBlock ∨ v2.ownBlock = some V.heap.size) (hgb : g < base) (u : Value) : (W.setCell ⟨g, i, none⟩ u).ownsRow base e s v n xs ∧ ∀ k k', v.ownBlock = some k → v2.ownBlock = some k' → k ≠ k' := by
  refine ⟨own_set (h.kept hg ?_) hgb i u, fun k k' hk hk' => ?_⟩
  · cases ho : v.ownBlock with
    | none => exact .inl rfl
    | some k => exact .inr (fun he => hne k k ho he.symm rfl)
  · rcases hw with e | e
    · rw [e] at hk'; exact hne k k' hk hk'
    · rw [e] at hk'
      injection hk' with hk'
      have := (h.lt k hk).2
      omega

set_option maxRecDepth 100000 in
set_option maxHeartbeats 16000000 in
theorem rmade_any (A : Option Addr) (n c : Nat) (ds : List Dom) (B : Option Addr) (m d : Nat) (us : List Vc) (x1 x2 x3 x4 y1 y2 : Int) (y3 y4 : Nat) (no nv : Int) (w : World) (hG : GR w A n c ds B m d us) :
    Calls Try.prog 52 #[.agg #[.slice A n c, .slice B m d], .agg #[.int .i64 x1, .int .i64 x2, .int .i64 x3, .int .i64 x4], .agg #[.int .i64 y1, .int .i64 y2, .int .u32 (y3 : Int), .int .u32 (y4 : Int)], .int .i64 no, .int .i64 nv] w
      (GivesG (madeD ds (x1, x2, x3, x4) no 8) (madeV us (y1, y2, y3, y4) nv 16) w) := by
  obtain ⟨i0, hi0, hi1, hi2, hi3⟩ := info_parts9 dom_info
  obtain ⟨i1, hj0, hj1, hj2, hj3⟩ := info_parts9 vc_info
  have HD := Lib.hid (fun (id : Int) (u : World) (h : Below w.heap.size w u) => rdom_any A n c ds B m d us id u (hG.below h))
  have HV := Lib.hid (fun (id : Int) (u : World) (h : Below w.heap.size w u) => rvc_any A n c ds B m d us id u (hG.below h))
  obtain ⟨K0, K1, K2, K3, K4, B0⟩ := blks5 w 25 27 50 25 25 #[.slice A n c, .slice B m d] #[.int .i64 x1, .int .i64 x2, .int .i64 x3, .int .i64 x4] #[.int .i64 y1, .int .i64 y2, .int .u32 (y3 : Int), .int .u32 (y4 : Int)] #[.slice none 0 0, .slice none 0 0] #[.slice none 0 0, .slice none 0 0]
  have HK := Lib.hid (And.intro K0 (And.intro K1 (And.intro K2 (And.intro K3 (And.intro K4 B0)))))
  clear K0 K1 K2 K3 K4 B0 hG
  go_enter Try.func52, Try.ntmps52
  go_upto_region 2 with fail
  generalize ((((w.alloc (.cells #[.slice A n c, .slice B m d] 25)).alloc (.cells #[.int .i64 x1, .int .i64 x2, .int .i64 x3, .int .i64 x4] 27)).alloc (.cells #[.int .i64 y1, .int .i64 y2, .int .u32 (y3 : Int), .int .u32 (y4 : Int)] 50)).alloc (.cells #[.slice none 0 0, .slice none 0 0] 25)).alloc (.cells #[.slice none 0 0, .slice none 0 0] 25) = W0 at HK ⊢
  go_wp2_with fail
  go_loopw [12] (fun i wr => ∃ (s q : Nat) (R : Option Addr) (cr : Nat), 1 ≤ s ∧ s ≤ 9 ∧ i = .int .i64 (s : Int) ∧ Hid (q = (madeD ds (x1, x2, x3, x4) no (s - 1)).length) ∧ Hid (wr.ownsRow (w.heap.size + 1 + 1 + 1 + 1 + 1) 27 4 (.slice R q cr) q (flat dv (madeD ds (x1, x2, x3, x4) no (s - 1)))) ∧
    Hid (Blk wr w.heap.size 25 #[.slice A n c, .slice B m d] ∧ Blk wr (w.heap.size + 1) 27 #[.int .i64 x1, .int .i64 x2, .int .i64 x3, .int .i64 x4] ∧ Blk wr (w.heap.size + 1 + 1) 50 #[.int .i64 y1, .int .i64 y2, .int .u32 (y3 : Int), .int .u32 (y4 : Int)] ∧ Blk wr (w.heap.size + 1 + 1 + 1) 25 #[.slice none 0 0, .slice none 0 0] ∧
      Blk wr (w.heap.size + 1 + 1 + 1 + 1) 25 #[.slice R q cr, .slice none 0 0] ∧ Below w.heap.size w wr)) (fun i _ => 9 - (intOf i).toNat)
  case atStart => exact ⟨1, 0, none, 0, by omega, by omega, rfl, Lib.hid rfl, Lib.hid (World.ownsRow_nil _ _ _ _), HK⟩
  case round =>
    clear HK
    obtain ⟨s, q, R, cr, s1, s9, rfl, Hq, HO, HK⟩ := hrel
    by_cases hlt : s ≤ 8
    · skip
      have k0 := HK.out.1.cell 0
      have k1 := HK.out.1.cell 1
      have HDs := Lib.hid (HD.out (s : Int))
      have hst := madeD_step (ds := ds) (d := (x1, x2, x3, x4)) (no := no) s1
      have q9 : q ≤ 100 := by have := madeD_len ds (x1, x2, x3, x4) no (s - 1); have := Hq.out; omega
      have l8 : decide ((s : Int) ≤ 8) = true := decide_eq_true (by omega)
      obtain ⟨⟨⟨a, b, e, f⟩, th⟩, hdv⟩ : ∃ r, domV ds (s : Int) = r := ⟨_, rfl⟩
      have HDv := Lib.hid hdv
      by_cases hy : (s : Int) = x1
      · have e1 : ((s : Int) == x1) = true := by simp [hy]
        by_cases hn : (s : Int) = no
        · have e2 : ((s : Int) == no) = true := by simp [hn]
          have HM : Hid (madeD ds (x1, x2, x3, x4) no s = madeD ds (x1, x2, x3, x4) no (s - 1)) := Lib.hid (by rw [hst, if_pos hn, List.append_nil])
          clear hst hdv hy hn
          go_wp2_with fail
          refine (HDs.out _ HK.out.2.2.2.2.2).mono ?_
          rw [HDv.out]
          rintro e1 w1 ⟨rfl, h9⟩
          have B1 := HK.out.2.2.2.2.2.trans (h9.mono HK.out.2.2.2.2.2.size)
          have E0 := HK.out.1.below h9 HK.out.1.lt
          have E1 := HK.out.2.1.below h9 HK.out.2.1.lt
          have E2 := HK.out.2.2.1.below h9 HK.out.2.2.1.lt
          have E3 := HK.out.2.2.2.1.below h9 HK.out.2.2.2.1.lt
          have E4 := HK.out.2.2.2.2.1.below h9 HK.out.2.2.2.2.1.lt
          have O1 := own_below HO.out h9
          clear h9 HK HO k0 k1
          have G0 := E0.alloc (.cells #[.int .i64 a, .int .i64 b, .int .i64 e, .int .i64 f] 27)
          have G1 := E1.alloc (.cells #[.int .i64 a, .int .i64 b, .int .i64 e, .int .i64 f] 27)
          have G2 := E2.alloc (.cells #[.int .i64 a, .int .i64 b, .int .i64 e, .int .i64 f] 27)
          have G3 := E3.alloc (.cells #[.int .i64 a, .int .i64 b, .int .i64 e, .int .i64 f] 27)
          have G4 := E4.alloc (.cells #[.int .i64 a, .int .i64 b, .int .i64 e, .int .i64 f] 27)
          have g0 := G1.cell 0
          have g1 := G1.cell 1
          have g2 := G1.cell 2
          have g3 := G1.cell 3
          have C0 := E0.alloc (.cells #[.int .i64 x1, .int .i64 x2, .int .i64 x3, .int .i64 x4] 27)
          have C1 := E1.alloc (.cells #[.int .i64 x1, .int .i64 x2, .int .i64 x3, .int .i64 x4] 27)
          have C2 := E2.alloc (.cells #[.int .i64 x1, .int .i64 x2, .int .i64 x3, .int .i64 x4] 27)
          have C3 := E3.alloc (.cells #[.int .i64 x1, .int .i64 x2, .int .i64 x3, .int .i64 x4] 27)
          have C4 := E4.alloc (.cells #[.int .i64 x1, .int .i64 x2, .int .i64 x3, .int .i64 x4] 27)
          have d0 := C4.cell 0
          clear G0 G1 G2 G3 G4
          have HT := Lib.hid (And.intro (O1.alloc (.cells #[.int .i64 x1, .int .i64 x2, .int .i64 x3, .int .i64 x4] 27)) (And.intro C0 (And.intro C1 (And.intro C2 (And.intro C3 (And.intro C4 (B1.alloc B1.size (.cells #[.int .i64 x1, .int .i64 x2, .int .i64 x3, .int .i64 x4] 27))))))))
          clear C0 C1 C2 C3 C4 E0 E1 E2 E3 E4 B1 O1
          go_wp2
          go_roundw
          case rel => exact ⟨s + 1, q, R, cr, by omega, by omega, by go_num, Lib.hid (by rw [Nat.add_sub_cancel, HM.out]; exact Hq.out), Lib.hid (by rw [Nat.add_sub_cancel, HM.out]; exact HT.out.1), Lib.hid HT.out.2⟩
          case measure => simp [intOf] <;> omega
        · have e2 : ((s : Int) == no) = false := by simp [hn]
          have HM : Hid (madeD ds (x1, x2, x3, x4) no s = madeD ds (x1, x2, x3, x4) no (s - 1) ++ [(x1, x2, x3, x4)]) := Lib.hid (by rw [hst, if_neg hn, if_pos hy])
          clear hst hdv hy hn
          go_wp2_with fail
          refine (HDs.out _ HK.out.2.2.2.2.2).mono ?_
          rw [HDv.out]
          rintro e1 w1 ⟨rfl, h9⟩
          have B1 := HK.out.2.2.2.2.2.trans (h9.mono HK.out.2.2.2.2.2.size)
          have E0 := HK.out.1.below h9 HK.out.1.lt
          have E1 := HK.out.2.1.below h9 HK.out.2.1.lt
          have E2 := HK.out.2.2.1.below h9 HK.out.2.2.1.lt
          have E3 := HK.out.2.2.2.1.below h9 HK.out.2.2.2.1.lt
          have E4 := HK.out.2.2.2.2.1.below h9 HK.out.2.2.2.2.1.lt
          have O1 := own_below HO.out h9
          clear h9 HK HO k0 k1
          have G0 := E0.alloc (.cells #[.int .i64 a, .int .i64 b, .int .i64 e, .int .i64 f] 27)
          have G1 := E1.alloc (.cells #[.int .i64 a, .int .i64 b, .int .i64 e, .int .i64 f] 27)
          have G2 := E2.alloc (.cells #[.int .i64 a, .int .i64 b, .int .i64 e, .int .i64 f] 27)
          have G3 := E3.alloc (.cells #[.int .i64 a, .int .i64 b, .int .i64 e, .int .i64 f] 27)
          have G4 := E4.alloc (.cells #[.int .i64 a, .int .i64 b, .int .i64 e, .int .i64 f] 27)
          have g0 := G1.cell 0
          have g1 := G1.cell 1
          have g2 := G1.cell 2
          have g3 := G1.cell 3
          have C0 := E0.alloc (.cells #[.int .i64 x1, .int .i64 x2, .int .i64 x3, .int .i64 x4] 27)
          have C1 := E1.alloc (.cells #[.int .i64 x1, .int .i64 x2, .int .i64 x3, .int .i64 x4] 27)
          have C2 := E2.alloc (.cells #[.int .i64 x1, .int .i64 x2, .int .i64 x3, .int .i64 x4] 27)
          have C3 := E3.alloc (.cells #[.int .i64 x1, .int .i64 x2, .int .i64 x3, .int .i64 x4] 27)
          have C4 := E4.alloc (.cells #[.int .i64 x1, .int .i64 x2, .int .i64 x3, .int .i64 x4] 27)
          have d0 := C4.cell 0
          clear G0 G1 G2 G3 G4
          go_wp2_with (
            at_builtin
            refine wpList_append_any _ rfl (.tmp 40) (.tmp 42) 22 rfl (w.heap.size + 1 + 1 + 1 + 1 + 1) 27 i0 (.agg #[.int .i64 0, .int .i64 0, .int .i64 0, .int .i64 0]) 4 32 Try.underlying22 hi0 hi1 hi2 hi3 rfl (by decide) (.slice R q cr) q (flat dv (madeD ds (x1, x2, x3, x4) no (s - 1))) rfl ((O1.alloc (.cells #[.int .i64 x1, .int .i64 x2, .int .i64 x3, .int .i64 x4] 27)).alloc _) _ (some ⟨w1.heap.size + 1, 0, none⟩) 1 1 (flat dv [(x1, x2, x3, x4)]) rfl (reads_dom1 (w1.alloc (.cells #[.int .i64 x1, .int .i64 x2, .int .i64 x3, .int .i64 x4] 27)) 27 x1 x2 x3 x4 (by simp)) (dv_ones _) (by simp only [maxLen]; omega) (by omega) (by have := E4.lt; simp <;> omega) ?_
            intro v9 w9 own9 grow9 hw9
            rw [← flat_append] at own9
            obtain ⟨A9, c9, rfl, _, _⟩ := own_reads own9
            have F4 := ((C4.alloc (.cells #[.int .i64 x1, .int .i64 x2, .int .i64 x3, .int .i64 x4] 27)).grown grow9 (fun e => by have := (O1.lt _ e.symm).1; omega))
            have d8 := F4.cell 0
            have f8 := F4.frozen 0
            have F5 : Blk (w9.setCell ⟨w.heap.size + 1 + 1 + 1 + 1, 0, none⟩ (.slice A9 (q + 1) c9)) (w.heap.size + 1 + 1 + 1 + 1) 25 #[.slice A9 (q + 1) c9, .slice none 0 0] := by have := F4.set_ 0 (.slice A9 (q + 1) c9); simpa using this
            have HT := Lib.hid (And.intro (own_set own9 (g := w.heap.size + 1 + 1 + 1 + 1) (by omega) 0 (.slice A9 (q + 1) c9)) (And.intro (((C0.alloc (.cells #[.int .i64 x1, .int .i64 x2, .int .i64 x3, .int .i64 x4] 27)).grown grow9 (fun e => by have := (O1.lt _ e.symm).1; omega)).far (p := ⟨w.heap.size + 1 + 1 + 1 + 1, 0, none⟩) (by simp <;> omega) (.slice A9 (q + 1) c9)) (And.intro (((C1.alloc (.cells #[.int .i64 x1, .int .i64 x2, .int .i64 x3, .int .i64 x4] 27)).grown grow9 (fun e => by have := (O1.lt _ e.symm).1; omega)).far (p := ⟨w.heap.size + 1 + 1 + 1 + 1, 0, none⟩) (by simp <;> omega) (.slice A9 (q + 1) c9)) (And.intro (((C2.alloc (.cells #[.int .i64 x1, .int .i64 x2, .int .i64 x3, .int .i64 x4] 27)).grown grow9 (fun e => by have := (O1.lt _ e.symm).1; omega)).far (p := ⟨w.heap.size + 1 + 1 + 1 + 1, 0, none⟩) (by simp <;> omega) (.slice A9 (q + 1) c9)) (And.intro (((C3.alloc (.cells #[.int .i64 x1, .int .i64 x2, .int .i64 x3, .int .i64 x4] 27)).grown grow9 (fun e => by have := (O1.lt _ e.symm).1; omega)).far (p := ⟨w.heap.size + 1 + 1 + 1 + 1, 0, none⟩) (by simp <;> omega) (.slice A9 (q + 1) c9)) (And.intro F5 ((((B1.alloc B1.size (.cells #[.int .i64 x1, .int .i64 x2, .int .i64 x3, .int .i64 x4] 27)).alloc (by have := B1.size; simp <;> omega) (.cells #[.int .i64 x1, .int .i64 x2, .int .i64 x3, .int .i64 x4] 27)).grown grow9 (by have := B1.size; simp <;> omega) (fun g hg => by have := (O1.lt g hg).1; omega)).setCell (p := ⟨w.heap.size + 1 + 1 + 1 + 1, 0, none⟩) (by show w.heap.size ≤ w.heap.size + 1 + 1 + 1 + 1; omega) (.slice A9 (q + 1) c9))))))))
            clear own9 grow9 hw9 F4 F5 C0 C1 C2 C3 C4 E0 E1 E2 E3 E4 B1 O1)
          go_wp2_with fail
          go_roundw
          case rel => exact ⟨s + 1, q + 1, A9, c9, by omega, by omega, by go_num, Lib.hid (by rw [Nat.add_sub_cancel, HM.out, List.length_append, ← Hq.out]; rfl), Lib.hid (by rw [Nat.add_sub_cancel, HM.out]; exact HT.out.1), Lib.hid HT.out.2⟩
          case measure => simp [intOf] <;> omega
      · have e1 : ((s : Int) == x1) = false := by simp [hy]
        cases th with
        | false =>
          have HM : Hid (madeD ds (x1, x2, x3, x4) no s = madeD ds (x1, x2, x3, x4) no (s - 1)) := Lib.hid (by
            rw [hst]
            split
            · rw [List.append_nil]
            · first | (rw [if_neg hy, domV_false hdv]; simp) | (rw [domV_false hdv]; simp))
          clear hst hdv hy
          go_wp2_with fail
          refine (HDs.out _ HK.out.2.2.2.2.2).mono ?_
          rw [HDv.out]
          rintro e1 w1 ⟨rfl, h9⟩
          have B1 := HK.out.2.2.2.2.2.trans (h9.mono HK.out.2.2.2.2.2.size)
          have E0 := HK.out.1.below h9 HK.out.1.lt
          have E1 := HK.out.2.1.below h9 HK.out.2.1.lt
          have E2 := HK.out.2.2.1.below h9 HK.out.2.2.1.lt
          have E3 := HK.out.2.2.2.1.below h9 HK.out.2.2.2.1.lt
          have E4 := HK.out.2.2.2.2.1.below h9 HK.out.2.2.2.2.1.lt
          have O1 := own_below HO.out h9
          clear h9 HK HO k0 k1
          have G0 := E0.alloc (.cells #[.int .i64 a, .int .i64 b, .int .i64 e, .int .i64 f] 27)
          have G1 := E1.alloc (.cells #[.int .i64 a, .int .i64 b, .int .i64 e, .int .i64 f] 27)
          have G2 := E2.alloc (.cells #[.int .i64 a, .int .i64 b, .int .i64 e, .int .i64 f] 27)
          have G3 := E3.alloc (.cells #[.int .i64 a, .int .i64 b, .int .i64 e, .int .i64 f] 27)
          have G4 := E4.alloc (.cells #[.int .i64 a, .int .i64 b, .int .i64 e, .int .i64 f] 27)
          have g0 := G1.cell 0
          have C0 := E0.alloc (.cells #[.int .i64 a, .int .i64 b, .int .i64 e, .int .i64 f] 27)
          have C1 := E1.alloc (.cells #[.int .i64 a, .int .i64 b, .int .i64 e, .int .i64 f] 27)
          have C2 := E2.alloc (.cells #[.int .i64 a, .int .i64 b, .int .i64 e, .int .i64 f] 27)
          have C3 := E3.alloc (.cells #[.int .i64 a, .int .i64 b, .int .i64 e, .int .i64 f] 27)
          have C4 := E4.alloc (.cells #[.int .i64 a, .int .i64 b, .int .i64 e, .int .i64 f] 27)
          have d0 := C4.cell 0
          clear G0 G1 G2 G3 G4
          have HT := Lib.hid (And.intro (O1.alloc (.cells #[.int .i64 a, .int .i64 b, .int .i64 e, .int .i64 f] 27)) (And.intro C0 (And.intro C1 (And.intro C2 (And.intro C3 (And.intro C4 (B1.alloc B1.size (.cells #[.int .i64 a, .int .i64 b, .int .i64 e, .int .i64 f] 27))))))))
          clear C0 C1 C2 C3 C4 E0 E1 E2 E3 E4 B1 O1
          go_wp2
          go_roundw
          case rel => exact ⟨s + 1, q, R, cr, by omega, by omega, by go_num, Lib.hid (by rw [Nat.add_sub_cancel, HM.out]; exact Hq.out), Lib.hid (by rw [Nat.add_sub_cancel, HM.out]; exact HT.out.1), Lib.hid HT.out.2⟩
          case measure => simp [intOf] <;> omega
        | true =>
          by_cases hn : (s : Int) = no
          · have e2 : ((s : Int) == no) = true := by simp [hn]
            have HM : Hid (madeD ds (x1, x2, x3, x4) no s = madeD ds (x1, x2, x3, x4) no (s - 1)) := Lib.hid (by rw [hst, if_pos hn, List.append_nil])
            clear hst hdv hy hn
            go_wp2_with fail
            refine (HDs.out _ HK.out.2.2.2.2.2).mono ?_
            rw [HDv.out]
            rintro e1 w1 ⟨rfl, h9⟩
            have B1 := HK.out.2.2.2.2.2.trans (h9.mono HK.out.2.2.2.2.2.size)
            have E0 := HK.out.1.below h9 HK.out.1.lt
            have E1 := HK.out.2.1.below h9 HK.out.2.1.lt
            have E2 := HK.out.2.2.1.below h9 HK.out.2.2.1.lt
            have E3 := HK.out.2.2.2.1.below h9 HK.out.2.2.2.1.lt
            have E4 := HK.out.2.2.2.2.1.below h9 HK.out.2.2.2.2.1.lt
            have O1 := own_below HO.out h9
            clear h9 HK HO k0 k1
            have G0 := E0.alloc (.cells #[.int .i64 a, .int .i64 b, .int .i64 e, .int .i64 f] 27)
            have G1 := E1.alloc (.cells #[.int .i64 a, .int .i64 b, .int .i64 e, .int .i64 f] 27)
            have G2 := E2.alloc (.cells #[.int .i64 a, .int .i64 b, .int .i64 e, .int .i64 f] 27)
            have G3 := E3.alloc (.cells #[.int .i64 a, .int .i64 b, .int .i64 e, .int .i64 f] 27)
            have G4 := E4.alloc (.cells #[.int .i64 a, .int .i64 b, .int .i64 e, .int .i64 f] 27)
            have g0 := G1.cell 0
            have C0 := E0.alloc (.cells #[.int .i64 a, .int .i64 b, .int .i64 e, .int .i64 f] 27)
            have C1 := E1.alloc (.cells #[.int .i64 a, .int .i64 b, .int .i64 e, .int .i64 f] 27)
            have C2 := E2.alloc (.cells #[.int .i64 a, .int .i64 b, .int .i64 e, .int .i64 f] 27)
            have C3 := E3.alloc (.cells #[.int .i64 a, .int .i64 b, .int .i64 e, .int .i64 f] 27)
            have C4 := E4.alloc (.cells #[.int .i64 a, .int .i64 b, .int .i64 e, .int .i64 f] 27)
            have d0 := C4.cell 0
            clear G0 G1 G2 G3 G4
            have HT := Lib.hid (And.intro (O1.alloc (.cells #[.int .i64 a, .int .i64 b, .int .i64 e, .int .i64 f] 27)) (And.intro C0 (And.intro C1 (And.intro C2 (And.intro C3 (And.intro C4 (B1.alloc B1.size (.cells #[.int .i64 a, .int .i64 b, .int .i64 e, .int .i64 f] 27))))))))
            clear C0 C1 C2 C3 C4 E0 E1 E2 E3 E4 B1 O1
            go_wp2
            go_roundw
            case rel => exact ⟨s + 1, q, R, cr, by omega, by omega, by go_num, Lib.hid (by rw [Nat.add_sub_cancel, HM.out]; exact Hq.out), Lib.hid (by rw [Nat.add_sub_cancel, HM.out]; exact HT.out.1), Lib.hid HT.out.2⟩
            case measure => simp [intOf] <;> omega
          · have e2 : ((s : Int) == no) = false := by simp [hn]
            have HM : Hid (madeD ds (x1, x2, x3, x4) no s = madeD ds (x1, x2, x3, x4) no (s - 1) ++ [(a, b, e, f)]) := Lib.hid (by rw [hst, if_neg hn, if_neg hy, domV_true hdv]; rfl)
            clear hst hdv hy hn
            go_wp2_with fail
            refine (HDs.out _ HK.out.2.2.2.2.2).mono ?_
            rw [HDv.out]
            rintro e1 w1 ⟨rfl, h9⟩
            have B1 := HK.out.2.2.2.2.2.trans (h9.mono HK.out.2.2.2.2.2.size)
            have E0 := HK.out.1.below h9 HK.out.1.lt
            have E1 := HK.out.2.1.below h9 HK.out.2.1.lt
            have E2 := HK.out.2.2.1.below h9 HK.out.2.2.1.lt
            have E3 := HK.out.2.2.2.1.below h9 HK.out.2.2.2.1.lt
            have E4 := HK.out.2.2.2.2.1.below h9 HK.out.2.2.2.2.1.lt
            have O1 := own_below HO.out h9
            clear h9 HK HO k0 k1
            have G0 := E0.alloc (.cells #[.int .i64 a, .int .i64 b, .int .i64 e, .int .i64 f] 27)
            have G1 := E1.alloc (.cells #[.int .i64 a, .int .i64 b, .int .i64 e, .int .i64 f] 27)
            have G2 := E2.alloc (.cells #[.int .i64 a, .int .i64 b, .int .i64 e, .int .i64 f] 27)
            have G3 := E3.alloc (.cells #[.int .i64 a, .int .i64 b, .int .i64 e, .int .i64 f] 27)
            have G4 := E4.alloc (.cells #[.int .i64 a, .int .i64 b, .int .i64 e, .int .i64 f] 27)
            have g0 := G1.cell 0
            have C0 := E0.alloc (.cells #[.int .i64 a, .int .i64 b, .int .i64 e, .int .i64 f] 27)
            have C1 := E1.alloc (.cells #[.int .i64 a, .int .i64 b, .int .i64 e, .int .i64 f] 27)
            have C2 := E2.alloc (.cells #[.int .i64 a, .int .i64 b, .int .i64 e, .int .i64 f] 27)
            have C3 := E3.alloc (.cells #[.int .i64 a, .int .i64 b, .int .i64 e, .int .i64 f] 27)
            have C4 := E4.alloc (.cells #[.int .i64 a, .int .i64 b, .int .i64 e, .int .i64 f] 27)
            have d0 := C4.cell 0
            clear G0 G1 G2 G3 G4
            go_wp2_with (
              at_builtin
              refine wpList_append_any _ rfl (.tmp 40) (.tmp 42) 22 rfl (w.heap.size + 1 + 1 + 1 + 1 + 1) 27 i0 (.agg #[.int .i64 0, .int .i64 0, .int .i64 0, .int .i64 0]) 4 32 Try.underlying22 hi0 hi1 hi2 hi3 rfl (by decide) (.slice R q cr) q (flat dv (madeD ds (x1, x2, x3, x4) no (s - 1))) rfl ((O1.alloc (.cells #[.int .i64 a, .int .i64 b, .int .i64 e, .int .i64 f] 27)).alloc _) _ (some ⟨w1.heap.size + 1, 0, none⟩) 1 1 (flat dv [(a, b, e, f)]) rfl (reads_dom1 (w1.alloc (.cells #[.int .i64 a, .int .i64 b, .int .i64 e, .int .i64 f] 27)) 27 a b e f (by simp)) (dv_ones _) (by simp only [maxLen]; omega) (by omega) (by have := E4.lt; simp <;> omega) ?_
              intro v9 w9 own9 grow9 hw9
              rw [← flat_append] at own9
              obtain ⟨A9, c9, rfl, _, _⟩ := own_reads own9
              have F4 := ((C4.alloc (.cells #[.int .i64 a, .int .i64 b, .int .i64 e, .int .i64 f] 27)).grown grow9 (fun e => by have := (O1.lt _ e.symm).1; omega))
              have d8 := F4.cell 0
              have f8 := F4.frozen 0
              have F5 : Blk (w9.setCell ⟨w.heap.size + 1 + 1 + 1 + 1, 0, none⟩ (.slice A9 (q + 1) c9)) (w.heap.size + 1 + 1 + 1 + 1) 25 #[.slice A9 (q + 1) c9, .slice none 0 0] := by have := F4.set_ 0 (.slice A9 (q + 1) c9); simpa using this
              have HT := Lib.hid (And.intro (own_set own9 (g := w.heap.size + 1 + 1 + 1 + 1) (by omega) 0 (.slice A9 (q + 1) c9)) (And.intro (((C0.alloc (.cells #[.int .i64 a, .int .i64 b, .int .i64 e, .int .i64 f] 27)).grown grow9 (fun e => by have := (O1.lt _ e.symm).1; omega)).far (p := ⟨w.heap.size + 1 + 1 + 1 + 1, 0, none⟩) (by simp <;> omega) (.slice A9 (q + 1) c9)) (And.intro (((C1.alloc (.cells #[.int .i64 a, .int .i64 b, .int .i64 e, .int .i64 f] 27)).grown grow9 (fun e => by have := (O1.lt _ e.symm).1; omega)).far (p := ⟨w.heap.size + 1 + 1 + 1 + 1, 0, none⟩) (by simp <;> omega) (.slice A9 (q + 1) c9)) (And.intro (((C2.alloc (.cells #[.int .i64 a, .int .i64 b, .int .i64 e, .int .i64 f] 27)).grown grow9 (fun e => by have := (O1.lt _ e.symm).1; omega)).far (p := ⟨w.heap.size + 1 + 1 + 1 + 1, 0, none⟩) (by simp <;> omega) (.slice A9 (q + 1) c9)) (And.intro (((C3.alloc (.cells #[.int .i64 a, .int .i64 b, .int .i64 e, .int .i64 f] 27)).grown grow9 (fun e => by have := (O1.lt _ e.symm).1; omega)).far (p := ⟨w.heap.size + 1 + 1 + 1 + 1, 0, none⟩) (by simp <;> omega) (.slice A9 (q + 1) c9)) (And.intro F5 ((((B1.alloc B1.size (.cells #[.int .i64 a, .int .i64 b, .int .i64 e, .int .i64 f] 27)).alloc (by have := B1.size; simp <;> omega) (.cells #[.int .i64 a, .int .i64 b, .int .i64 e, .int .i64 f] 27)).grown grow9 (by have := B1.size; simp <;> omega) (fun g hg => by have := (O1.lt g hg).1; omega)).setCell (p := ⟨w.heap.size + 1 + 1 + 1 + 1, 0, none⟩) (by show w.heap.size ≤ w.heap.size + 1 + 1 + 1 + 1; omega) (.slice A9 (q + 1) c9))))))))
              clear own9 grow9 hw9 F4 F5 C0 C1 C2 C3 C4 E0 E1 E2 E3 E4 B1 O1)
            go_wp2_with fail
            go_roundw
            case rel => exact ⟨s + 1, q + 1, A9, c9, by omega, by omega, by go_num, Lib.hid (by rw [Nat.add_sub_cancel, HM.out, List.length_append, ← Hq.out]; rfl), Lib.hid (by rw [Nat.add_sub_cancel, HM.out]; exact HT.out.1), Lib.hid HT.out.2⟩
            case measure => simp [intOf] <;> omega
    · have h9 : s - 1 = 8 := by omega
      have l9 : decide ((s : Int) ≤ 8) = false := decide_eq_false (by omega)
      have HO8 : Hid (wr.ownsRow (w.heap.size + 1 + 1 + 1 + 1 + 1) 27 4 (.slice R q cr) q (flat dv (madeD ds (x1, x2, x3, x4) no 8))) := Lib.hid (by have := HO.out; rwa [h9] at this)
      have Hq8 : Hid (q = (madeD ds (x1, x2, x3, x4) no 8).length) := Lib.hid (by have := Hq.out; rwa [h9] at this)
      have HK8 := HK
      clear HO Hq s1 s9 hlt HK h9
      go_wp2_with fail
      go_loopw [15] (fun i wr => ∃ (s p : Nat) (P : Option Addr) (cp : Nat), 1 ≤ s ∧ s ≤ 17 ∧ i = .int .i64 (s : Int) ∧ Hid (p = (madeV us (y1, y2, y3, y4) nv (s - 1)).length) ∧ Hid (wr.ownsRow (w.heap.size + 1 + 1 + 1 + 1 + 1) 50 4 (.slice P p cp) p (flat cv (madeV us (y1, y2, y3, y4) nv (s - 1)))) ∧
        Hid (wr.ownsRow (w.heap.size + 1 + 1 + 1 + 1 + 1) 27 4 (.slice R q cr) q (flat dv (madeD ds (x1, x2, x3, x4) no 8)) ∧ ∀ k k', (Value.slice R q cr).ownBlock = some k → (Value.slice P p cp).ownBlock = some k' → k ≠ k') ∧
        Hid (Blk wr w.heap.size 25 #[.slice A n c, .slice B m d] ∧ Blk wr (w.heap.size + 1) 27 #[.int .i64 x1, .int .i64 x2, .int .i64 x3, .int .i64 x4] ∧ Blk wr (w.heap.size + 1 + 1) 50 #[.int .i64 y1, .int .i64 y2, .int .u32 (y3 : Int), .int .u32 (y4 : Int)] ∧ Blk wr (w.heap.size + 1 + 1 + 1) 25 #[.slice none 0 0, .slice none 0 0] ∧
          Blk wr (w.heap.size + 1 + 1 + 1 + 1) 25 #[.slice R q cr, .slice P p cp] ∧ Below w.heap.size w wr)) (fun i _ => 17 - (intOf i).toNat)
      case atStart => exact ⟨1, 0, none, 0, by omega, by omega, rfl, Lib.hid rfl, Lib.hid (World.ownsRow_nil _ _ _ _), Lib.hid ⟨HO8.out, fun k k' _ h => by cases h⟩, HK8⟩
      case round =>
        clear HK8 HO8
        obtain ⟨s, p, P, cp, s1, s17, rfl, Hp, HO, HO2, HK⟩ := hrel
        by_cases hlt : s ≤ 16
        · skip
          have k0 := HK.out.1.cell 0
          have k1 := HK.out.1.cell 1
          have HDs := Lib.hid (HV.out (s : Int))
          have hst := madeV_step (us := us) (v := (y1, y2, y3, y4)) (no := nv) s1
          have q9 : p ≤ 100 := by have := madeV_len us (y1, y2, y3, y4) nv (s - 1); have := Hp.out; omega
          have l8 : decide ((s : Int) ≤ 16) = true := decide_eq_true (by omega)
          obtain ⟨⟨⟨a, b, e, f⟩, th⟩, hdv⟩ : ∃ r, vcV us (s : Int) = r := ⟨_, rfl⟩
          have HDv := Lib.hid hdv
          by_cases hy : 0 < y2 ∧ (s : Int) = y1
          · have e0 : decide ((0 : Int) < y2) = true := decide_eq_true hy.1
            have e1 : ((s : Int) == y1) = true := by simp [hy.2]
            by_cases hn : (s : Int) = nv
            · have e2 : ((s : Int) == nv) = true := by simp [hn]
              have HM : Hid (madeV us (y1, y2, y3, y4) nv s = madeV us (y1, y2, y3, y4) nv (s - 1)) := Lib.hid (by rw [hst, if_pos hn, List.append_nil])
              clear hst hdv hy hn
              go_wp2_with fail
              refine (HDs.out _ HK.out.2.2.2.2.2).mono ?_
              rw [HDv.out]
              rintro e1 w1 ⟨rfl, h9⟩
              have B1 := HK.out.2.2.2.2.2.trans (h9.mono HK.out.2.2.2.2.2.size)
              have E0 := HK.out.1.below h9 HK.out.1.lt
              have E1 := HK.out.2.1.below h9 HK.out.2.1.lt
              have E2 := HK.out.2.2.1.below h9 HK.out.2.2.1.lt
              have E3 := HK.out.2.2.2.1.below h9 HK.out.2.2.2.1.lt
              have E4 := HK.out.2.2.2.2.1.below h9 HK.out.2.2.2.2.1.lt
              have O1 := own_below HO.out h9
              have O2 := own_below HO2.out.1 h9
              have NE := HO2.out.2
              clear h9 HK HO k0 k1 HO2
              have G0 := E0.alloc (.cells #[.int .i64 a, .int .i64 b, .int .u32 (e : Int), .int .u32 (f : Int)] 50)
              have G1 := E1.alloc (.cells #[.int .i64 a, .int .i64 b, .int .u32 (e : Int), .int .u32 (f : Int)] 50)
              have G2 := E2.alloc (.cells #[.int .i64 a, .int .i64 b, .int .u32 (e : Int), .int .u32 (f : Int)] 50)
              have G3 := E3.alloc (.cells #[.int .i64 a, .int .i64 b, .int .u32 (e : Int), .int .u32 (f : Int)] 50)
              have G4 := E4.alloc (.cells #[.int .i64 a, .int .i64 b, .int .u32 (e : Int), .int .u32 (f : Int)] 50)
              have g0 := G2.cell 0
              have g1 := G2.cell 1
              have g2 := G2.cell 2
              have g3 := G2.cell 3
              have C0 := E0.alloc (.cells #[.int .i64 y1, .int .i64 y2, .int .u32 (y3 : Int), .int .u32 (y4 : Int)] 50)
              have C1 := E1.alloc (.cells #[.int .i64 y1, .int .i64 y2, .int .u32 (y3 : Int), .int .u32 (y4 : Int)] 50)
              have C2 := E2.alloc (.cells #[.int .i64 y1, .int .i64 y2, .int .u32 (y3 : Int), .int .u32 (y4 : Int)] 50)
              have C3 := E3.alloc (.cells #[.int .i64 y1, .int .i64 y2, .int .u32 (y3 : Int), .int .u32 (y4 : Int)] 50)
              have C4 := E4.alloc (.cells #[.int .i64 y1, .int .i64 y2, .int .u32 (y3 : Int), .int .u32 (y4 : Int)] 50)
              have d0 := C4.cell 1
              clear G0 G1 G2 G3 G4
              have HT := Lib.hid (And.intro (O1.alloc (.cells #[.int .i64 y1, .int .i64 y2, .int .u32 (y3 : Int), .int .u32 (y4 : Int)] 50)) (And.intro C0 (And.intro C1 (And.intro C2 (And.intro C3 (And.intro C4 (B1.alloc B1.size (.cells #[.int .i64 y1, .int .i64 y2, .int .u32 (y3 : Int), .int .u32 (y4 : Int)] 50))))))))
              have HT2 := Lib.hid (And.intro (O2.alloc (.cells #[.int .i64 y1, .int .i64 y2, .int .u32 (y3 : Int), .int .u32 (y4 : Int)] 50)) NE)
              clear C0 C1 C2 C3 C4 E0 E1 E2 E3 E4 B1 O1 O2 NE
              go_wp2
              go_roundw
              case rel => exact ⟨s + 1, p, P, cp, by omega, by omega, by go_num, Lib.hid (by rw [Nat.add_sub_cancel, HM.out]; exact Hp.out), Lib.hid (by rw [Nat.add_sub_cancel, HM.out]; exact HT.out.1), HT2, Lib.hid HT.out.2⟩
              case measure => simp [intOf] <;> omega
            · have e2 : ((s : Int) == nv) = false := by simp [hn]
              have HM : Hid (madeV us (y1, y2, y3, y4) nv s = madeV us (y1, y2, y3, y4) nv (s - 1) ++ [(y1, y2, y3, y4)]) := Lib.hid (by rw [hst, if_neg hn, if_pos hy])
              clear hst hdv hy hn
              go_wp2_with fail
              refine (HDs.out _ HK.out.2.2.2.2.2).mono ?_
              rw [HDv.out]
              rintro e1 w1 ⟨rfl, h9⟩
              have B1 := HK.out.2.2.2.2.2.trans (h9.mono HK.out.2.2.2.2.2.size)
              have E0 := HK.out.1.below h9 HK.out.1.lt
              have E1 := HK.out.2.1.below h9 HK.out.2.1.lt
              have E2 := HK.out.2.2.1.below h9 HK.out.2.2.1.lt
              have E3 := HK.out.2.2.2.1.below h9 HK.out.2.2.2.1.lt
              have E4 := HK.out.2.2.2.2.1.below h9 HK.out.2.2.2.2.1.lt
              have O1 := own_below HO.out h9
              have O2 := own_below HO2.out.1 h9
              have NE := HO2.out.2
              clear h9 HK HO k0 k1 HO2
              have G0 := E0.alloc (.cells #[.int .i64 a, .int .i64 b, .int .u32 (e : Int), .int .u32 (f : Int)] 50)
              have G1 := E1.alloc (.cells #[.int .i64 a, .int .i64 b, .int .u32 (e : Int), .int .u32 (f : Int)] 50)
              have G2 := E2.alloc (.cells #[.int .i64 a, .int .i64 b, .int .u32 (e : Int), .int .u32 (f : Int)] 50)
              have G3 := E3.alloc (.cells #[.int .i64 a, .int .i64 b, .int .u32 (e : Int), .int .u32 (f : Int)] 50)
              have G4 := E4.alloc (.cells #[.int .i64 a, .int .i64 b, .int .u32 (e : Int), .int .u32 (f : Int)] 50)
              have g0 := G2.cell 0
              have g1 := G2.cell 1
              have g2 := G2.cell 2
              have g3 := G2.cell 3
              have C0 := E0.alloc (.cells #[.int .i64 y1, .int .i64 y2, .int .u32 (y3 : Int), .int .u32 (y4 : Int)] 50)
              have C1 := E1.alloc (.cells #[.int .i64 y1, .int .i64 y2, .int .u32 (y3 : Int), .int .u32 (y4 : Int)] 50)
              have C2 := E2.alloc (.cells #[.int .i64 y1, .int .i64 y2, .int .u32 (y3 : Int), .int .u32 (y4 : Int)] 50)
              have C3 := E3.alloc (.cells #[.int .i64 y1, .int .i64 y2, .int .u32 (y3 : Int), .int .u32 (y4 : Int)] 50)
              have C4 := E4.alloc (.cells #[.int .i64 y1, .int .i64 y2, .int .u32 (y3 : Int), .int .u32 (y4 : Int)] 50)
              have d0 := C4.cell 1
              clear G0 G1 G2 G3 G4
              go_wp2_with (
                at_builtin
                refine wpList_append_any _ rfl (.tmp 72) (.tmp 74) 23 rfl (w.heap.size + 1 + 1 + 1 + 1 + 1) 50 i1 (.agg #[.int .i64 0, .int .i64 0, .int .u32 0, .int .u32 0]) 4 24 Try.underlying23 hj0 hj1 hj2 hj3 rfl (by decide) (.slice P p cp) p (flat cv (madeV us (y1, y2, y3, y4) nv (s - 1))) rfl ((O1.alloc (.cells #[.int .i64 y1, .int .i64 y2, .int .u32 (y3 : Int), .int .u32 (y4 : Int)] 50)).alloc _) _ (some ⟨w1.heap.size + 1, 0, none⟩) 1 1 (flat cv [(y1, y2, y3, y4)]) rfl (reads_vc1 (w1.alloc (.cells #[.int .i64 y1, .int .i64 y2, .int .u32 (y3 : Int), .int .u32 (y4 : Int)] 50)) 50 y1 y2 y3 y4 (by simp)) (cv_ones _) (by simp only [maxLen]; omega) (by omega) (by have := E4.lt; simp <;> omega) ?_
                intro v9 w9 own9 grow9 hw9
                rw [← flat_append] at own9
                obtain ⟨A9, c9, rfl, _, _⟩ := own_reads own9
                have F4 := ((C4.alloc (.cells #[.int .i64 y1, .int .i64 y2, .int .u32 (y3 : Int), .int .u32 (y4 : Int)] 50)).grown grow9 (fun e => by have := (O1.lt _ e.symm).1; omega))
                have d8 := F4.cell 1
                have f8 := F4.frozen 1
                have F5 : Blk (w9.setCell ⟨w.heap.size + 1 + 1 + 1 + 1, 1, none⟩ (.slice A9 (p + 1) c9)) (w.heap.size + 1 + 1 + 1 + 1) 25 #[.slice R q cr, .slice A9 (p + 1) c9] := by have := F4.set_ 1 (.slice A9 (p + 1) c9); simpa using this
                have HT := Lib.hid (And.intro (own_set own9 (g := w.heap.size + 1 + 1 + 1 + 1) (by omega) 1 (.slice A9 (p + 1) c9)) (And.intro (((C0.alloc (.cells #[.int .i64 y1, .int .i64 y2, .int .u32 (y3 : Int), .int .u32 (y4 : Int)] 50)).grown grow9 (fun e => by have := (O1.lt _ e.symm).1; omega)).far (p := ⟨w.heap.size + 1 + 1 + 1 + 1, 1, none⟩) (by simp <;> omega) (.slice A9 (p + 1) c9)) (And.intro (((C1.alloc (.cells #[.int .i64 y1, .int .i64 y2, .int .u32 (y3 : Int), .int .u32 (y4 : Int)] 50)).grown grow9 (fun e => by have := (O1.lt _ e.symm).1; omega)).far (p := ⟨w.heap.size + 1 + 1 + 1 + 1, 1, none⟩) (by simp <;> omega) (.slice A9 (p + 1) c9)) (And.intro (((C2.alloc (.cells #[.int .i64 y1, .int .i64 y2, .int .u32 (y3 : Int), .int .u32 (y4 : Int)] 50)).grown grow9 (fun e => by have := (O1.lt _ e.symm).1; omega)).far (p := ⟨w.heap.size + 1 + 1 + 1 + 1, 1, none⟩) (by simp <;> omega) (.slice A9 (p + 1) c9)) (And.intro (((C3.alloc (.cells #[.int .i64 y1, .int .i64 y2, .int .u32 (y3 : Int), .int .u32 (y4 : Int)] 50)).grown grow9 (fun e => by have := (O1.lt _ e.symm).1; omega)).far (p := ⟨w.heap.size + 1 + 1 + 1 + 1, 1, none⟩) (by simp <;> omega) (.slice A9 (p + 1) c9)) (And.intro F5 ((((B1.alloc B1.size (.cells #[.int .i64 y1, .int .i64 y2, .int .u32 (y3 : Int), .int .u32 (y4 : Int)] 50)).alloc (by have := B1.size; simp <;> omega) (.cells #[.int .i64 y1, .int .i64 y2, .int .u32 (y3 : Int), .int .u32 (y4 : Int)] 50)).grown grow9 (by have := B1.size; simp <;> omega) (fun g hg => by have := (O1.lt g hg).1; omega)).setCell (p := ⟨w.heap.size + 1 + 1 + 1 + 1, 1, none⟩) (by show w.heap.size ≤ w.heap.size + 1 + 1 + 1 + 1; omega) (.slice A9 (p + 1) c9))))))))
                have HT2 := Lib.hid (show ((w9.setCell ⟨w.heap.size + 1 + 1 + 1 + 1, 1, none⟩ (.slice A9 (p + 1) c9)).ownsRow (w.heap.size + 1 + 1 + 1 + 1 + 1) 27 4 (.slice R q cr) q (flat dv (madeD ds (x1, x2, x3, x4) no 8)) ∧ ∀ k k', (Value.slice R q cr).ownBlock = some k → (Value.slice A9 (p + 1) c9).ownBlock = some k' → k ≠ k') from row_both ((O2.alloc (.cells #[.int .i64 y1, .int .i64 y2, .int .u32 (y3 : Int), .int .u32 (y4 : Int)] 50)).alloc (.cells #[.int .i64 y1, .int .i64 y2, .int .u32 (y3 : Int), .int .u32 (y4 : Int)] 50)) NE grow9 hw9 (by omega) _)
                clear own9 grow9 hw9 F4 F5 C0 C1 C2 C3 C4 E0 E1 E2 E3 E4 B1 O1 O2 NE)
              go_wp2_with fail
              go_roundw
              case rel => exact ⟨s + 1, p + 1, A9, c9, by omega, by omega, by go_num, Lib.hid (by rw [Nat.add_sub_cancel, HM.out, List.length_append, ← Hp.out]; rfl), Lib.hid (by rw [Nat.add_sub_cancel, HM.out]; exact HT.out.1), HT2, Lib.hid HT.out.2⟩
              case measure => simp [intOf] <;> omega
          · by_cases hz : 0 < y2
            · have e0 : decide ((0 : Int) < y2) = true := decide_eq_true hz
              have e1 : ((s : Int) == y1) = false := by simp; exact fun h => hy ⟨hz, h⟩
              cases th with
              | false =>
                have HM : Hid (madeV us (y1, y2, y3, y4) nv s = madeV us (y1, y2, y3, y4) nv (s - 1)) := Lib.hid (by
                  rw [hst]
                  split
                  · rw [List.append_nil]
                  · first | (rw [if_neg hy, vcV_false hdv]; simp) | (rw [vcV_false hdv]; simp))
                clear hst hdv hy hz
                go_wp2_with fail
                refine (HDs.out _ HK.out.2.2.2.2.2).mono ?_
                rw [HDv.out]
                rintro e1 w1 ⟨rfl, h9⟩
                have B1 := HK.out.2.2.2.2.2.trans (h9.mono HK.out.2.2.2.2.2.size)
                have E0 := HK.out.1.below h9 HK.out.1.lt
                have E1 := HK.out.2.1.below h9 HK.out.2.1.lt
                have E2 := HK.out.2.2.1.below h9 HK.out.2.2.1.lt
                have E3 := HK.out.2.2.2.1.below h9 HK.out.2.2.2.1.lt
                have E4 := HK.out.2.2.2.2.1.below h9 HK.out.2.2.2.2.1.lt
                have O1 := own_below HO.out h9
                have O2 := own_below HO2.out.1 h9
                have NE := HO2.out.2
                clear h9 HK HO k0 k1 HO2
                have G0 := E0.alloc (.cells #[.int .i64 a, .int .i64 b, .int .u32 (e : Int), .int .u32 (f : Int)] 50)
                have G1 := E1.alloc (.cells #[.int .i64 a, .int .i64 b, .int .u32 (e : Int), .int .u32 (f : Int)] 50)
                have G2 := E2.alloc (.cells #[.int .i64 a, .int .i64 b, .int .u32 (e : Int), .int .u32 (f : Int)] 50)
                have G3 := E3.alloc (.cells #[.int .i64 a, .int .i64 b, .int .u32 (e : Int), .int .u32 (f : Int)] 50)
                have G4 := E4.alloc (.cells #[.int .i64 a, .int .i64 b, .int .u32 (e : Int), .int .u32 (f : Int)] 50)
                have g0 := G2.cell 1
                have g1 := G2.cell 0
                have C0 := E0.alloc (.cells #[.int .i64 a, .int .i64 b, .int .u32 (e : Int), .int .u32 (f : Int)] 50)
                have C1 := E1.alloc (.cells #[.int .i64 a, .int .i64 b, .int .u32 (e : Int), .int .u32 (f : Int)] 50)
                have C2 := E2.alloc (.cells #[.int .i64 a, .int .i64 b, .int .u32 (e : Int), .int .u32 (f : Int)] 50)
                have C3 := E3.alloc (.cells #[.int .i64 a, .int .i64 b, .int .u32 (e : Int), .int .u32 (f : Int)] 50)
                have C4 := E4.alloc (.cells #[.int .i64 a, .int .i64 b, .int .u32 (e : Int), .int .u32 (f : Int)] 50)
                have d0 := C4.cell 1
                clear G0 G1 G2 G3 G4
                have HT := Lib.hid (And.intro (O1.alloc (.cells #[.int .i64 a, .int .i64 b, .int .u32 (e : Int), .int .u32 (f : Int)] 50)) (And.intro C0 (And.intro C1 (And.intro C2 (And.intro C3 (And.intro C4 (B1.alloc B1.size (.cells #[.int .i64 a, .int .i64 b, .int .u32 (e : Int), .int .u32 (f : Int)] 50))))))))
                have HT2 := Lib.hid (And.intro (O2.alloc (.cells #[.int .i64 a, .int .i64 b, .int .u32 (e : Int), .int .u32 (f : Int)] 50)) NE)
                clear C0 C1 C2 C3 C4 E0 E1 E2 E3 E4 B1 O1 O2 NE
                go_wp2
                go_roundw
                case rel => exact ⟨s + 1, p, P, cp, by omega, by omega, by go_num, Lib.hid (by rw [Nat.add_sub_cancel, HM.out]; exact Hp.out), Lib.hid (by rw [Nat.add_sub_cancel, HM.out]; exact HT.out.1), HT2, Lib.hid HT.out.2⟩
                case measure => simp [intOf] <;> omega
              | true =>
                by_cases hn : (s : Int) = nv
                · have e2 : ((s : Int) == nv) = true := by simp [hn]
                  have HM : Hid (madeV us (y1, y2, y3, y4) nv s = madeV us (y1, y2, y3, y4) nv (s - 1)) := Lib.hid (by rw [hst, if_pos hn, List.append_nil])
                  clear hst hdv hy hn hz
                  go_wp2_with fail
                  refine (HDs.out _ HK.out.2.2.2.2.2).mono ?_
                  rw [HDv.out]
                  rintro e1 w1 ⟨rfl, h9⟩
                  have B1 := HK.out.2.2.2.2.2.trans (h9.mono HK.out.2.2.2.2.2.size)
                  have E0 := HK.out.1.below h9 HK.out.1.lt
                  have E1 := HK.out.2.1.below h9 HK.out.2.1.lt
                  have E2 := HK.out.2.2.1.below h9 HK.out.2.2.1.lt
                  have E3 := HK.out.2.2.2.1.below h9 HK.out.2.2.2.1.lt
                  have E4 := HK.out.2.2.2.2.1.below h9 HK.out.2.2.2.2.1.lt
                  have O1 := own_below HO.out h9
                  have O2 := own_below HO2.out.1 h9
                  have NE := HO2.out.2
                  clear h9 HK HO k0 k1 HO2
                  have G0 := E0.alloc (.cells #[.int .i64 a, .int .i64 b, .int .u32 (e : Int), .int .u32 (f : Int)] 50)
                  have G1 := E1.alloc (.cells #[.int .i64 a, .int .i64 b, .int .u32 (e : Int), .int .u32 (f : Int)] 50)
                  have G2 := E2.alloc (.cells #[.int .i64 a, .int .i64 b, .int .u32 (e : Int), .int .u32 (f : Int)] 50)
                  have G3 := E3.alloc (.cells #[.int .i64 a, .int .i64 b, .int .u32 (e : Int), .int .u32 (f : Int)] 50)
                  have G4 := E4.alloc (.cells #[.int .i64 a, .int .i64 b, .int .u32 (e : Int), .int .u32 (f : Int)] 50)
                  have g0 := G2.cell 1
                  have g1 := G2.cell 0
                  have C0 := E0.alloc (.cells #[.int .i64 a, .int .i64 b, .int .u32 (e : Int), .int .u32 (f : Int)] 50)
                  have C1 := E1.alloc (.cells #[.int .i64 a, .int .i64 b, .int .u32 (e : Int), .int .u32 (f : Int)] 50)
                  have C2 := E2.alloc (.cells #[.int .i64 a, .int .i64 b, .int .u32 (e : Int), .int .u32 (f : Int)] 50)
                  have C3 := E3.alloc (.cells #[.int .i64 a, .int .i64 b, .int .u32 (e : Int), .int .u32 (f : Int)] 50)
                  have C4 := E4.alloc (.cells #[.int .i64 a, .int .i64 b, .int .u32 (e : Int), .int .u32 (f : Int)] 50)
                  have d0 := C4.cell 1
                  clear G0 G1 G2 G3 G4
                  have HT := Lib.hid (And.intro (O1.alloc (.cells #[.int .i64 a, .int .i64 b, .int .u32 (e : Int), .int .u32 (f : Int)] 50)) (And.intro C0 (And.intro C1 (And.intro C2 (And.intro C3 (And.intro C4 (B1.alloc B1.size (.cells #[.int .i64 a, .int .i64 b, .int .u32 (e : Int), .int .u32 (f : Int)] 50))))))))
                  have HT2 := Lib.hid (And.intro (O2.alloc (.cells #[.int .i64 a, .int .i64 b, .int .u32 (e : Int), .int .u32 (f : Int)] 50)) NE)
                  clear C0 C1 C2 C3 C4 E0 E1 E2 E3 E4 B1 O1 O2 NE
                  go_wp2
                  go_roundw
                  case rel => exact ⟨s + 1, p, P, cp, by omega, by omega, by go_num, Lib.hid (by rw [Nat.add_sub_cancel, HM.out]; exact Hp.out), Lib.hid (by rw [Nat.add_sub_cancel, HM.out]; exact HT.out.1), HT2, Lib.hid HT.out.2⟩
                  case measure => simp [intOf] <;> omega
                · have e2 : ((s : Int) == nv) = false := by simp [hn]
                  have HM : Hid (madeV us (y1, y2, y3, y4) nv s = madeV us (y1, y2, y3, y4) nv (s - 1) ++ [(a, b, e, f)]) := Lib.hid (by rw [hst, if_neg hn, if_neg hy, vcV_true hdv]; rfl)
                  clear hst hdv hy hn hz
                  go_wp2_with fail
                  refine (HDs.out _ HK.out.2.2.2.2.2).mono ?_
                  rw [HDv.out]
                  rintro e1 w1 ⟨rfl, h9⟩
                  have B1 := HK.out.2.2.2.2.2.trans (h9.mono HK.out.2.2.2.2.2.size)
                  have E0 := HK.out.1.below h9 HK.out.1.lt
                  have E1 := HK.out.2.1.below h9 HK.out.2.1.lt
                  have E2 := HK.out.2.2.1.below h9 HK.out.2.2.1.lt
                  have E3 := HK.out.2.2.2.1.below h9 HK.out.2.2.2.1.lt
                  have E4 := HK.out.2.2.2.2.1.below h9 HK.out.2.2.2.2.1.lt
                  have O1 := own_below HO.out h9
                  have O2 := own_below HO2.out.1 h9
                  have NE := HO2.out.2
                  clear h9 HK HO k0 k1 HO2
                  have G0 := E0.alloc (.cells #[.int .i64 a, .int .i64 b, .int .u32 (e : Int), .int .u32 (f : Int)] 50)
                  have G1 := E1.alloc (.cells #[.int .i64 a, .int .i64 b, .int .u32 (e : Int), .int .u32 (f : Int)] 50)
                  have G2 := E2.alloc (.cells #[.int .i64 a, .int .i64 b, .int .u32 (e : Int), .int .u32 (f : Int)] 50)
                  have G3 := E3.alloc (.cells #[.int .i64 a, .int .i64 b, .int .u32 (e : Int), .int .u32 (f : Int)] 50)
                  have G4 := E4.alloc (.cells #[.int .i64 a, .int .i64 b, .int .u32 (e : Int), .int .u32 (f : Int)] 50)
                  have g0 := G2.cell 1
                  have g1 := G2.cell 0
                  have C0 := E0.alloc (.cells #[.int .i64 a, .int .i64 b, .int .u32 (e : Int), .int .u32 (f : Int)] 50)
                  have C1 := E1.alloc (.cells #[.int .i64 a, .int .i64 b, .int .u32 (e : Int), .int .u32 (f : Int)] 50)
                  have C2 := E2.alloc (.cells #[.int .i64 a, .int .i64 b, .int .u32 (e : Int), .int .u32 (f : Int)] 50)
                  have C3 := E3.alloc (.cells #[.int .i64 a, .int .i64 b, .int .u32 (e : Int), .int .u32 (f : Int)] 50)
                  have C4 := E4.alloc (.cells #[.int .i64 a, .int .i64 b, .int .u32 (e : Int), .int .u32 (f : Int)] 50)
                  have d0 := C4.cell 1
                  clear G0 G1 G2 G3 G4
                  go_wp2_with (
                    at_builtin
                    refine wpList_append_any _ rfl (.tmp 72) (.tmp 74) 23 rfl (w.heap.size + 1 + 1 + 1 + 1 + 1) 50 i1 (.agg #[.int .i64 0, .int .i64 0, .int .u32 0, .int .u32 0]) 4 24 Try.underlying23 hj0 hj1 hj2 hj3 rfl (by decide) (.slice P p cp) p (flat cv (madeV us (y1, y2, y3, y4) nv (s - 1))) rfl ((O1.alloc (.cells #[.int .i64 a, .int .i64 b, .int .u32 (e : Int), .int .u32 (f : Int)] 50)).alloc _) _ (some ⟨w1.heap.size + 1, 0, none⟩) 1 1 (flat cv [(a, b, e, f)]) rfl (reads_vc1 (w1.alloc (.cells #[.int .i64 a, .int .i64 b, .int .u32 (e : Int), .int .u32 (f : Int)] 50)) 50 a b e f (by simp)) (cv_ones _) (by simp only [maxLen]; omega) (by omega) (by have := E4.lt; simp <;> omega) ?_
                    intro v9 w9 own9 grow9 hw9
                    rw [← flat_append] at own9
                    obtain ⟨A9, c9, rfl, _, _⟩ := own_reads own9
                    have F4 := ((C4.alloc (.cells #[.int .i64 a, .int .i64 b, .int .u32 (e : Int), .int .u32 (f : Int)] 50)).grown grow9 (fun e => by have := (O1.lt _ e.symm).1; omega))
                    have d8 := F4.cell 1
                    have f8 := F4.frozen 1
                    have F5 : Blk (w9.setCell ⟨w.heap.size + 1 + 1 + 1 + 1, 1, none⟩ (.slice A9 (p + 1) c9)) (w.heap.size + 1 + 1 + 1 + 1) 25 #[.slice R q cr, .slice A9 (p + 1) c9] := by have := F4.set_ 1 (.slice A9 (p + 1) c9); simpa using this
                    have HT := Lib.hid (And.intro (own_set own9 (g := w.heap.size + 1 + 1 + 1 + 1) (by omega) 1 (.slice A9 (p + 1) c9)) (And.intro (((C0.alloc (.cells #[.int .i64 a, .int .i64 b, .int .u32 (e : Int), .int .u32 (f : Int)] 50)).grown grow9 (fun e => by have := (O1.lt _ e.symm).1; omega)).far (p := ⟨w.heap.size + 1 + 1 + 1 + 1, 1, none⟩) (by simp <;> omega) (.slice A9 (p + 1) c9)) (And.intro (((C1.alloc (.cells #[.int .i64 a, .int .i64 b, .int .u32 (e : Int), .int .u32 (f : Int)] 50)).grown grow9 (fun e => by have := (O1.lt _ e.symm).1; omega)).far (p := ⟨w.heap.size + 1 + 1 + 1 + 1, 1, none⟩) (by simp <;> omega) (.slice A9 (p + 1) c9)) (And.intro (((C2.alloc (.cells #[.int .i64 a, .int .i64 b, .int .u32 (e : Int), .int .u32 (f : Int)] 50)).grown grow9 (fun e => by have := (O1.lt _ e.symm).1; omega)).far (p := ⟨w.heap.size + 1 + 1 + 1 + 1, 1, none⟩) (by simp <;> omega) (.slice A9 (p + 1) c9)) (And.intro (((C3.alloc (.cells #[.int .i64 a, .int .i64 b, .int .u32 (e : Int), .int .u32 (f : Int)] 50)).grown grow9 (fun e => by have := (O1.lt _ e.symm).1; omega)).far (p := ⟨w.heap.size + 1 + 1 + 1 + 1, 1, none⟩) (by simp <;> omega) (.slice A9 (p + 1) c9)) (And.intro F5 ((((B1.alloc B1.size (.cells #[.int .i64 a, .int .i64 b, .int .u32 (e : Int), .int .u32 (f : Int)] 50)).alloc (by have := B1.size; simp <;> omega) (.cells #[.int .i64 a, .int .i64 b, .int .u32 (e : Int), .int .u32 (f : Int)] 50)).grown grow9 (by have := B1.size; simp <;> omega) (fun g hg => by have := (O1.lt g hg).1; omega)).setCell (p := ⟨w.heap.size + 1 + 1 + 1 + 1, 1, none⟩) (by show w.heap.size ≤ w.heap.size + 1 + 1 + 1 + 1; omega) (.slice A9 (p + 1) c9))))))))
                    have HT2 := Lib.hid (show ((w9.setCell ⟨w.heap.size + 1 + 1 + 1 + 1, 1, none⟩ (.slice A9 (p + 1) c9)).ownsRow (w.heap.size + 1 + 1 + 1 + 1 + 1) 27 4 (.slice R q cr) q (flat dv (madeD ds (x1, x2, x3, x4) no 8)) ∧ ∀ k k', (Value.slice R q cr).ownBlock = some k → (Value.slice A9 (p + 1) c9).ownBlock = some k' → k ≠ k') from row_both ((O2.alloc (.cells #[.int .i64 a, .int .i64 b, .int .u32 (e : Int), .int .u32 (f : Int)] 50)).alloc (.cells #[.int .i64 a, .int .i64 b, .int .u32 (e : Int), .int .u32 (f : Int)] 50)) NE grow9 hw9 (by omega) _)
                    clear own9 grow9 hw9 F4 F5 C0 C1 C2 C3 C4 E0 E1 E2 E3 E4 B1 O1 O2 NE)
                  go_wp2_with fail
                  go_roundw
                  case rel => exact ⟨s + 1, p + 1, A9, c9, by omega, by omega, by go_num, Lib.hid (by rw [Nat.add_sub_cancel, HM.out, List.length_append, ← Hp.out]; rfl), Lib.hid (by rw [Nat.add_sub_cancel, HM.out]; exact HT.out.1), HT2, Lib.hid HT.out.2⟩
                  case measure => simp [intOf] <;> omega
            · have e0 : decide ((0 : Int) < y2) = false := decide_eq_false hz
              cases th with
              | false =>
                have HM : Hid (madeV us (y1, y2, y3, y4) nv s = madeV us (y1, y2, y3, y4) nv (s - 1)) := Lib.hid (by
                  rw [hst]
                  split
                  · rw [List.append_nil]
                  · first | (rw [if_neg hy, vcV_false hdv]; simp) | (rw [vcV_false hdv]; simp))
                clear hst hdv hy hz
                go_wp2_with fail
                refine (HDs.out _ HK.out.2.2.2.2.2).mono ?_
                rw [HDv.out]
                rintro e1 w1 ⟨rfl, h9⟩
                have B1 := HK.out.2.2.2.2.2.trans (h9.mono HK.out.2.2.2.2.2.size)
                have E0 := HK.out.1.below h9 HK.out.1.lt
                have E1 := HK.out.2.1.below h9 HK.out.2.1.lt
                have E2 := HK.out.2.2.1.below h9 HK.out.2.2.1.lt
                have E3 := HK.out.2.2.2.1.below h9 HK.out.2.2.2.1.lt
                have E4 := HK.out.2.2.2.2.1.below h9 HK.out.2.2.2.2.1.lt
                have O1 := own_below HO.out h9
                have O2 := own_below HO2.out.1 h9
                have NE := HO2.out.2
                clear h9 HK HO k0 k1 HO2
                have G0 := E0.alloc (.cells #[.int .i64 a, .int .i64 b, .int .u32 (e : Int), .int .u32 (f : Int)] 50)
                have G1 := E1.alloc (.cells #[.int .i64 a, .int .i64 b, .int .u32 (e : Int), .int .u32 (f : Int)] 50)
                have G2 := E2.alloc (.cells #[.int .i64 a, .int .i64 b, .int .u32 (e : Int), .int .u32 (f : Int)] 50)
                have G3 := E3.alloc (.cells #[.int .i64 a, .int .i64 b, .int .u32 (e : Int), .int .u32 (f : Int)] 50)
                have G4 := E4.alloc (.cells #[.int .i64 a, .int .i64 b, .int .u32 (e : Int), .int .u32 (f : Int)] 50)
                have g0 := G2.cell 1
                have g1 := G2.cell 0
                have C0 := E0.alloc (.cells #[.int .i64 a, .int .i64 b, .int .u32 (e : Int), .int .u32 (f : Int)] 50)
                have C1 := E1.alloc (.cells #[.int .i64 a, .int .i64 b, .int .u32 (e : Int), .int .u32 (f : Int)] 50)
                have C2 := E2.alloc (.cells #[.int .i64 a, .int .i64 b, .int .u32 (e : Int), .int .u32 (f : Int)] 50)
                have C3 := E3.alloc (.cells #[.int .i64 a, .int .i64 b, .int .u32 (e : Int), .int .u32 (f : Int)] 50)
                have C4 := E4.alloc (.cells #[.int .i64 a, .int .i64 b, .int .u32 (e : Int), .int .u32 (f : Int)] 50)
                have d0 := C4.cell 1
                clear G0 G1 G2 G3 G4
                have HT := Lib.hid (And.intro (O1.alloc (.cells #[.int .i64 a, .int .i64 b, .int .u32 (e : Int), .int .u32 (f : Int)] 50)) (And.intro C0 (And.intro C1 (And.intro C2 (And.intro C3 (And.intro C4 (B1.alloc B1.size (.cells #[.int .i64 a, .int .i64 b, .int .u32 (e : Int), .int .u32 (f : Int)] 50))))))))
                have HT2 := Lib.hid (And.intro (O2.alloc (.cells #[.int .i64 a, .int .i64 b, .int .u32 (e : Int), .int .u32 (f : Int)] 50)) NE)
                clear C0 C1 C2 C3 C4 E0 E1 E2 E3 E4 B1 O1 O2 NE
                go_wp2
                go_roundw
                case rel => exact ⟨s + 1, p, P, cp, by omega, by omega, by go_num, Lib.hid (by rw [Nat.add_sub_cancel, HM.out]; exact Hp.out), Lib.hid (by rw [Nat.add_sub_cancel, HM.out]; exact HT.out.1), HT2, Lib.hid HT.out.2⟩
                case measure => simp [intOf] <;> omega
              | true =>
                by_cases hn : (s : Int) = nv
                · have e2 : ((s : Int) == nv) = true := by simp [hn]
                  have HM : Hid (madeV us (y1, y2, y3, y4) nv s = madeV us (y1, y2, y3, y4) nv (s - 1)) := Lib.hid (by rw [hst, if_pos hn, List.append_nil])
                  clear hst hdv hy hn hz
                  go_wp2_with fail
                  refine (HDs.out _ HK.out.2.2.2.2.2).mono ?_
                  rw [HDv.out]
                  rintro e1 w1 ⟨rfl, h9⟩
                  have B1 := HK.out.2.2.2.2.2.trans (h9.mono HK.out.2.2.2.2.2.size)
                  have E0 := HK.out.1.below h9 HK.out.1.lt
                  have E1 := HK.out.2.1.below h9 HK.out.2.1.lt
                  have E2 := HK.out.2.2.1.below h9 HK.out.2.2.1.lt
                  have E3 := HK.out.2.2.2.1.below h9 HK.out.2.2.2.1.lt
                  have E4 := HK.out.2.2.2.2.1.below h9 HK.out.2.2.2.2.1.lt
                  have O1 := own_below HO.out h9
                  have O2 := own_below HO2.out.1 h9
                  have NE := HO2.out.2
                  clear h9 HK HO k0 k1 HO2
                  have G0 := E0.alloc (.cells #[.int .i64 a, .int .i64 b, .int .u32 (e : Int), .int .u32 (f : Int)] 50)
                  have G1 := E1.alloc (.cells #[.int .i64 a, .int .i64 b, .int .u32 (e : Int), .int .u32 (f : Int)] 50)
                  have G2 := E2.alloc (.cells #[.int .i64 a, .int .i64 b, .int .u32 (e : Int), .int .u32 (f : Int)] 50)
                  have G3 := E3.alloc (.cells #[.int .i64 a, .int .i64 b, .int .u32 (e : Int), .int .u32 (f : Int)] 50)
                  have G4 := E4.alloc (.cells #[.int .i64 a, .int .i64 b, .int .u32 (e : Int), .int .u32 (f : Int)] 50)
                  have g0 := G2.cell 1
                  have g1 := G2.cell 0
                  have C0 := E0.alloc (.cells #[.int .i64 a, .int .i64 b, .int .u32 (e : Int), .int .u32 (f : Int)] 50)
                  have C1 := E1.alloc (.cells #[.int .i64 a, .int .i64 b, .int .u32 (e : Int), .int .u32 (f : Int)] 50)
                  have C2 := E2.alloc (.cells #[.int .i64 a, .int .i64 b, .int .u32 (e : Int), .int .u32 (f : Int)] 50)
                  have C3 := E3.alloc (.cells #[.int .i64 a, .int .i64 b, .int .u32 (e : Int), .int .u32 (f : Int)] 50)
                  have C4 := E4.alloc (.cells #[.int .i64 a, .int .i64 b, .int .u32 (e : Int), .int .u32 (f : Int)] 50)
                  have d0 := C4.cell 1
                  clear G0 G1 G2 G3 G4
                  have HT := Lib.hid (And.intro (O1.alloc (.cells #[.int .i64 a, .int .i64 b, .int .u32 (e : Int), .int .u32 (f : Int)] 50)) (And.intro C0 (And.intro C1 (And.intro C2 (And.intro C3 (And.intro C4 (B1.alloc B1.size (.cells #[.int .i64 a, .int .i64 b, .int .u32 (e : Int), .int .u32 (f : Int)] 50))))))))
                  have HT2 := Lib.hid (And.intro (O2.alloc (.cells #[.int .i64 a, .int .i64 b, .int .u32 (e : Int), .int .u32 (f : Int)] 50)) NE)
                  clear C0 C1 C2 C3 C4 E0 E1 E2 E3 E4 B1 O1 O2 NE
                  go_wp2
                  go_roundw
                  case rel => exact ⟨s + 1, p, P, cp, by omega, by omega, by go_num, Lib.hid (by rw [Nat.add_sub_cancel, HM.out]; exact Hp.out), Lib.hid (by rw [Nat.add_sub_cancel, HM.out]; exact HT.out.1), HT2, Lib.hid HT.out.2⟩
                  case measure => simp [intOf] <;> omega
                · have e2 : ((s : Int) == nv) = false := by simp [hn]
                  have HM : Hid (madeV us (y1, y2, y3, y4) nv s = madeV us (y1, y2, y3, y4) nv (s - 1) ++ [(a, b, e, f)]) := Lib.hid (by rw [hst, if_neg hn, if_neg hy, vcV_true hdv]; rfl)
                  clear hst hdv hy hn hz
                  go_wp2_with fail
                  refine (HDs.out _ HK.out.2.2.2.2.2).mono ?_
                  rw [HDv.out]
                  rintro e1 w1 ⟨rfl, h9⟩
                  have B1 := HK.out.2.2.2.2.2.trans (h9.mono HK.out.2.2.2.2.2.size)
                  have E0 := HK.out.1.below h9 HK.out.1.lt
                  have E1 := HK.out.2.1.below h9 HK.out.2.1.lt
                  have E2 := HK.out.2.2.1.below h9 HK.out.2.2.1.lt
                  have E3 := HK.out.2.2.2.1.below h9 HK.out.2.2.2.1.lt
                  have E4 := HK.out.2.2.2.2.1.below h9 HK.out.2.2.2.2.1.lt
                  have O1 := own_below HO.out h9
                  have O2 := own_below HO2.out.1 h9
                  have NE := HO2.out.2
                  clear h9 HK HO k0 k1 HO2
                  have G0 := E0.alloc (.cells #[.int .i64 a, .int .i64 b, .int .u32 (e : Int), .int .u32 (f : Int)] 50)
                  have G1 := E1.alloc (.cells #[.int .i64 a, .int .i64 b, .int .u32 (e : Int), .int .u32 (f : Int)] 50)
                  have G2 := E2.alloc (.cells #[.int .i64 a, .int .i64 b, .int .u32 (e : Int), .int .u32 (f : Int)] 50)
                  have G3 := E3.alloc (.cells #[.int .i64 a, .int .i64 b, .int .u32 (e : Int), .int .u32 (f : Int)] 50)
                  have G4 := E4.alloc (.cells #[.int .i64 a, .int .i64 b, .int .u32 (e : Int), .int .u32 (f : Int)] 50)
                  have g0 := G2.cell 1
                  have g1 := G2.cell 0
                  have C0 := E0.alloc (.cells #[.int .i64 a, .int .i64 b, .int .u32 (e : Int), .int .u32 (f : Int)] 50)
                  have C1 := E1.alloc (.cells #[.int .i64 a, .int .i64 b, .int .u32 (e : Int), .int .u32 (f : Int)] 50)
                  have C2 := E2.alloc (.cells #[.int .i64 a, .int .i64 b, .int .u32 (e : Int), .int .u32 (f : Int)] 50)
                  have C3 := E3.alloc (.cells #[.int .i64 a, .int .i64 b, .int .u32 (e : Int), .int .u32 (f : Int)] 50)
                  have C4 := E4.alloc (.cells #[.int .i64 a, .int .i64 b, .int .u32 (e : Int), .int .u32 (f : Int)] 50)
                  have d0 := C4.cell 1
                  clear G0 G1 G2 G3 G4
                  go_wp2_with (
                    at_builtin
                    refine wpList_append_any _ rfl (.tmp 72) (.tmp 74) 23 rfl (w.heap.size + 1 + 1 + 1 + 1 + 1) 50 i1 (.agg #[.int .i64 0, .int .i64 0, .int .u32 0, .int .u32 0]) 4 24 Try.underlying23 hj0 hj1 hj2 hj3 rfl (by decide) (.slice P p cp) p (flat cv (madeV us (y1, y2, y3, y4) nv (s - 1))) rfl ((O1.alloc (.cells #[.int .i64 a, .int .i64 b, .int .u32 (e : Int), .int .u32 (f : Int)] 50)).alloc _) _ (some ⟨w1.heap.size + 1, 0, none⟩) 1 1 (flat cv [(a, b, e, f)]) rfl (reads_vc1 (w1.alloc (.cells #[.int .i64 a, .int .i64 b, .int .u32 (e : Int), .int .u32 (f : Int)] 50)) 50 a b e f (by simp)) (cv_ones _) (by simp only [maxLen]; omega) (by omega) (by have := E4.lt; simp <;> omega) ?_
                    intro v9 w9 own9 grow9 hw9
                    rw [← flat_append] at own9
                    obtain ⟨A9, c9, rfl, _, _⟩ := own_reads own9
                    have F4 := ((C4.alloc (.cells #[.int .i64 a, .int .i64 b, .int .u32 (e : Int), .int .u32 (f : Int)] 50)).grown grow9 (fun e => by have := (O1.lt _ e.symm).1; omega))
                    have d8 := F4.cell 1
                    have f8 := F4.frozen 1
                    have F5 : Blk (w9.setCell ⟨w.heap.size + 1 + 1 + 1 + 1, 1, none⟩ (.slice A9 (p + 1) c9)) (w.heap.size + 1 + 1 + 1 + 1) 25 #[.slice R q cr, .slice A9 (p + 1) c9] := by have := F4.set_ 1 (.slice A9 (p + 1) c9); simpa using this
                    have HT := Lib.hid (And.intro (own_set own9 (g := w.heap.size + 1 + 1 + 1 + 1) (by omega) 1 (.slice A9 (p + 1) c9)) (And.intro (((C0.alloc (.cells #[.int .i64 a, .int .i64 b, .int .u32 (e : Int), .int .u32 (f : Int)] 50)).grown grow9 (fun e => by have := (O1.lt _ e.symm).1; omega)).far (p := ⟨w.heap.size + 1 + 1 + 1 + 1, 1, none⟩) (by simp <;> omega) (.slice A9 (p + 1) c9)) (And.intro (((C1.alloc (.cells #[.int .i64 a, .int .i64 b, .int .u32 (e : Int), .int .u32 (f : Int)] 50)).grown grow9 (fun e => by have := (O1.lt _ e.symm).1; omega)).far (p := ⟨w.heap.size + 1 + 1 + 1 + 1, 1, none⟩) (by simp <;> omega) (.slice A9 (p + 1) c9)) (And.intro (((C2.alloc (.cells #[.int .i64 a, .int .i64 b, .int .u32 (e : Int), .int .u32 (f : Int)] 50)).grown grow9 (fun e => by have := (O1.lt _ e.symm).1; omega)).far (p := ⟨w.heap.size + 1 + 1 + 1 + 1, 1, none⟩) (by simp <;> omega) (.slice A9 (p + 1) c9)) (And.intro (((C3.alloc (.cells #[.int .i64 a, .int .i64 b, .int .u32 (e : Int), .int .u32 (f : Int)] 50)).grown grow9 (fun e => by have := (O1.lt _ e.symm).1; omega)).far (p := ⟨w.heap.size + 1 + 1 + 1 + 1, 1, none⟩) (by simp <;> omega) (.slice A9 (p + 1) c9)) (And.intro F5 ((((B1.alloc B1.size (.cells #[.int .i64 a, .int .i64 b, .int .u32 (e : Int), .int .u32 (f : Int)] 50)).alloc (by have := B1.size; simp <;> omega) (.cells #[.int .i64 a, .int .i64 b, .int .u32 (e : Int), .int .u32 (f : Int)] 50)).grown grow9 (by have := B1.size; simp <;> omega) (fun g hg => by have := (O1.lt g hg).1; omega)).setCell (p := ⟨w.heap.size + 1 + 1 + 1 + 1, 1, none⟩) (by show w.heap.size ≤ w.heap.size + 1 + 1 + 1 + 1; omega) (.slice A9 (p + 1) c9))))))))
                    have HT2 := Lib.hid (show ((w9.setCell ⟨w.heap.size + 1 + 1 + 1 + 1, 1, none⟩ (.slice A9 (p + 1) c9)).ownsRow (w.heap.size + 1 + 1 + 1 + 1 + 1) 27 4 (.slice R q cr) q (flat dv (madeD ds (x1, x2, x3, x4) no 8)) ∧ ∀ k k', (Value.slice R q cr).ownBlock = some k → (Value.slice A9 (p + 1) c9).ownBlock = some k' → k ≠ k') from row_both ((O2.alloc (.cells #[.int .i64 a, .int .i64 b, .int .u32 (e : Int), .int .u32 (f : Int)] 50)).alloc (.cells #[.int .i64 a, .int .i64 b, .int .u32 (e : Int), .int .u32 (f : Int)] 50)) NE grow9 hw9 (by omega) _)
                    clear own9 grow9 hw9 F4 F5 C0 C1 C2 C3 C4 E0 E1 E2 E3 E4 B1 O1 O2 NE)
                  go_wp2_with fail
                  go_roundw
                  case rel => exact ⟨s + 1, p + 1, A9, c9, by omega, by omega, by go_num, Lib.hid (by rw [Nat.add_sub_cancel, HM.out, List.length_append, ← Hp.out]; rfl), Lib.hid (by rw [Nat.add_sub_cancel, HM.out]; exact HT.out.1), HT2, Lib.hid HT.out.2⟩
                  case measure => simp [intOf] <;> omega
        · have h17 : s - 1 = 16 := by omega
          have l17 : decide ((s : Int) ≤ 16) = false := decide_eq_false (by omega)
          have k0 := HK.out.2.2.2.2.1.cell 0
          have k1 := HK.out.2.2.2.2.1.cell 1
          have k2 := HK.out.2.2.2.1.cell 0
          have k3 := HK.out.2.2.2.1.cell 1
          have f2 := HK.out.2.2.2.1.frozen 0
          have f3 := HK.out.2.2.2.1.frozen 1
          have HW := Lib.hid (put2 (x := .slice R q cr) (y := .slice P p cp) HK.out.2.2.2.1 HK.out.2.2.2.2.2 (by omega))
          have HX := Lib.hid (And.intro (own_set (own_set HO2.out.1 (g := w.heap.size + 1 + 1 + 1) (by omega) 0 (.slice R q cr)) (g := w.heap.size + 1 + 1 + 1) (by omega) 1 (.slice P p cp)) (own_set (own_set (h17 ▸ HO.out : wr.ownsRow _ _ _ _ _ (flat cv (madeV us (y1, y2, y3, y4) nv 16))) (g := w.heap.size + 1 + 1 + 1) (by omega) 0 (.slice R q cr)) (g := w.heap.size + 1 + 1 + 1) (by omega) 1 (.slice P p cp)))
          have HE : Hid (q = (madeD ds (x1, x2, x3, x4) no 8).length ∧ p = (madeV us (y1, y2, y3, y4) nv 16).length) := Lib.hid ⟨Hq8.out, by have := Hp.out; rwa [h17] at this⟩
          clear HO HO2 HK Hp h17
          go_wp2_with fail
          exact bodyPost_ret (v := .agg #[.slice R q cr, .slice P p cp]) (results_cell_row Try.results52 _ _ _ _ _ _ _ rfl HW.out.1 Try.underlying25 rfl (by kernel_rfl)) rfl ⟨R, cr, P, cp, by rw [← HE.out.1, ← HE.out.2], by rw [← HE.out.1]; exact own_down HX.out.1 (by omega), by rw [← HE.out.2]; exact own_down HX.out.2 (by omega), HW.out.2⟩

end Go.Proofs.Ytknimnopopnbhaa
