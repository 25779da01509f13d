/-
  The landed place: Moves. No statement is proved here.
-/
import Derived.Test.YtldleijocjohgaaDoorGg
import Derived.RangeFuncNested
import Derived.Maps.AppendAt
namespace Go.Proofs.YtldleijocjohgaaDoor
open Go.RowKit Go.Shelf

attribute [local go_sem] Oper.semAt_some

theorem num_step (k : Nat) (h : k ≤ 1000) : IntKind.i64.wrap ((k : Int) + 1) = ((k + 1 : Nat) : Int) := by rw [IntKind.wrap_i64]; omega
def Nums3 (a b E : Int) (w : World) (e : Ending) (w' : World) : Prop := e = .returned (.tuple #[.int .i64 a, .int .i64 b, .int .i64 E]) ∧ Below w.heap.size w w'
def movesV (l : List Wi) (s : Int) : Int × Int := if whyE l s = 0 then ((movesOf (tus bestW l s.toNat) : Int), ((waitsOf (tus bestW l s.toNat)).length : Int)) else (0, 0)

set_option maxRecDepth 100000 in
set_option maxHeartbeats 4000000 in
theorem moves_any (A : Option Addr) (n c : Nat) (l : List Wi) (s : Int) (w : World) (hs : U32 s) (hR : Reads w w.heap.size 4 A n (wivs l)) (hU : ∀ (k : Nat) (x : Wi), l[k]? = some x → UW x) (hn : n ≤ 1000) (hD : Db w) :
    Calls Tryd.prog 11 #[.slice A n c, .int .u32 s] w (Nums3 (movesV l s).1 (movesV l s).2 (whyE l s) w) := by
  have HL := wishes_len hR
  have HF := Lib.hid (prefused_any A n c l s w hs hR hU hn)
  unfold movesV
  have h256 : whyE l s = 0 → s < 256 := why_small
  by_cases hE : whyE l s = 0
  · obtain ⟨S, hS⟩ := Int.eq_ofNat_of_zero_le hs.1
    have hS256 : S < 256 := by have := h256 hE; omega
    subst hS
    rw [if_pos hE, hE, Int.toNat_natCast]
    rw [hE] at HF
    have HU := Lib.hid hU
    have HR := Lib.hid hR
    have HT := Lib.hid (fun u => turns_any A n c (S : Int) (.func 28) #[] u)
    have HD := Lib.hid hD
    have HN := Lib.hid hn
    have HS := Lib.hid hS256
    have HLL := Lib.hid HL
    clear hE h256 hs hR hU hD hn hS256 HL
    refine (callsIn_wide (n := 5)).1 ?_
    refine callsIn_of_wp_marks Tryd.func11 rfl trivial ?_ rfl
    simp only [Tryd.ntmps11, List.size_toArray, List.length_cons, List.length_nil, Nat.reduceAdd, Nat.reduceSub, Array.replicate_succ, Array.replicate_zero, List.push_toArray, List.append_toArray, List.nil_append, List.cons_append]
    gi_wp2_with fail
    refine ⟨trivial, ?_⟩
    refine (callsIn_wide.2 HF.out).mono ?_
    rintro e X ⟨rfl, h2⟩
    have HX := Lib.hid h2
    have hszX := h2.size
    clear h2
    gi_wp2_with fail
    refine ⟨trivial, ?_⟩
    refine (callsIn_wide.2 (HT.out _)).mono ?_
    rintro e V ⟨rfl, hV⟩
    gi_wp2_with fail
    clear hV
    obtain ⟨K8, K9, K2, K1, K3, hB4⟩ := blks5 X 3 3 22 24 87 #[.int .i64 0] #[.int .i64 0] #[.slice A n c] #[.int .u32 (S : Int)] #[.func (.func 28) #[] #[]]
    generalize ((((X.alloc (.cells #[.int .i64 0] 3)).alloc (.cells #[.int .i64 0] 3)).alloc (.cells #[.slice A n c] 22)).alloc (.cells #[.int .u32 (S : Int)] 24)).alloc (.cells #[.func (.func 28) #[] #[]] 87) = V at K8 K9 K2 K1 K3 hB4 ⊢
    have hgl : 0 < X.heap.size := Nat.lt_of_lt_of_le HD.out.lt hszX
    have hDV : Db V := (HD.out.below HX.out HD.out.lt).below hB4 hgl
    have hs := turnsBest_stops 4 (by decide) (X.heap.size + 1 + 1 + 1) (X.heap.size + 1 + 1) (X.heap.size + 1 + 1 + 1 + 1) X.heap.size (X.heap.size + 1 + 1 + 1 + 1) (X.heap.size + 1 + 1 + 1 + 1) A n c l S bestW V hB4.size K1 K2 K3 rfl K3.lt HS.out (((HR.out.below HX.out).more hszX).below hB4) HN.out (best_asked hDV hgl HU.out)
    have hlenT : (tus bestW l S).length ≤ 1000 := by rw [tus_length, HLL.out]; exact HN.out
    refine wpIn_rangeFunc_ownH rfl (by decide) (gf := 48) (lb := #[.pointer (some ⟨X.heap.size + 1 + 1 + 1, 0, none⟩), .pointer (some ⟨X.heap.size + 1 + 1, 0, none⟩), .pointer (some ⟨X.heap.size + 1 + 1 + 1 + 1, 0, none⟩)]) rfl trivial (enters_of Tryd.func48 (by kernel_rfl) rfl)
      hs keeps2_t (keeps2_b hB4.size K3.lt K3.lt) (Below.refl _ _) (fun _ => rfl)
      (fun pre W => (Blk W (X.heap.size) 3 #[.int .i64 (movesOf pre : Int)] ∧ Blk W (X.heap.size + 1) 3 #[.int .i64 ((waitsOf pre).length : Int)]) ∧ Blk W (X.heap.size + 1 + 1 + 1 + 1) 87 #[.func (.func 28) #[] #[]] ∧ Below X.heap.size X W)
      (fun _ _ _ => False)
      (OwnFrom.and (OwnFrom.and (fun pre W W' row h hg hr => own_blk _ _ _ () W W' row h hg (fun r e => (hr r e).2)) (fun pre W W' row h hg hr => own_blk _ _ _ () W W' row h hg (fun r e => (hr r e).2))) (OwnFrom.and (Own.from (own_blk _ _ _) _) (ownFrom_below (Nat.le_refl _) hB4.size)))
      (fun _ _ _ _ _ hs _ _ => hs)
      ⟨⟨K8, K9⟩, K3, hB4⟩
      (fun x a' W => ∃ g, a' = { tmps := #[.slice A n c, .int .u32 (S : Int), undef, undef, .int .i64 0, .int .i64 0, .int .i64 0, .int .i64 0, .pointer (some ⟨X.heap.size, 0, none⟩), .pointer (some ⟨X.heap.size + 1, 0, none⟩), .pointer (some ⟨g, 0, none⟩), .slice A n c, .int .u32 (S : Int), .int .i64 0, .int .i64 0, .bool false, undef, .slice A n c, .int .u32 (S : Int), .func (.func 48) #[] #[.pointer (some ⟨X.heap.size + 1 + 1 + 1, 0, none⟩), .pointer (some ⟨X.heap.size + 1 + 1, 0, none⟩), .pointer (some ⟨X.heap.size + 1 + 1 + 1 + 1, 0, none⟩)], .agg (tuA x), .int .u32 (x.left : Int), undef, undef, undef, undef, undef, undef, undef, undef, undef, undef, undef, undef, undef, undef, undef, undef, undef, undef, undef, undef, undef, undef, undef], defers := [] } ∧ Blk W g 66 (tuA x))
      (fun x a' _ W W' row ⟨g, e, hk⟩ hg hr => ⟨g, e, own_blk g _ _ () W W' row hk hg (fun r er => (hr r er).2)⟩) ?assign ?body ?done ?stop
    case assign =>
      rintro l' pre x W K ⟨⟨hv, hv2⟩, hT, hB⟩ hK
      have hszW := hB.size
      have hT3 := hT.lt
      obtain ⟨⟨xv, xa, xh, xs⟩, xc, xp, xl⟩ := x
      unfold tuv tuA at *
      dsimp only at *
      gi_wp2
      exact hK _ _ ((KeepsOthers.alloc _ _).from _) (keeps2_of ((Below.refl _ _).alloc (Nat.le_refl _) _) hszW hT3 hT3) ⟨⟨hv.alloc _, hv2.alloc _⟩, hT.alloc _, hB.alloc hszW _⟩ ⟨W.heap.size, rfl, Blk.new _ _ _⟩
    case body =>
      rintro l' pre x a' W _ _ ⟨⟨hv, hv2⟩, hT, hB⟩ ⟨g, rfl, hk⟩ hlen
      have hplen : (waitsOf pre).length ≤ 1000 := by have := waits_le pre; omega
      have hplem : movesOf pre ≤ 1000 := by have := moves_le pre; omega
      clear hlen
      have hszW := hB.size
      have HYES := Lib.hid (fun (h : x.p = true) => waits_yes (ts := pre) h)
      have HNO := Lib.hid (fun (h : x.p = false) => waits_no (ts := pre) h)
      have HMY := Lib.hid (fun (h : movedB x = true) => moves_yes (ts := pre) h)
      have HMN := Lib.hid (fun (h : movedB x = false) => moves_no (ts := pre) h)
      obtain ⟨⟨xv, xa, xh, xs⟩, xc, xp, xl⟩ := x
      unfold tuA at *
      unfold movedB at *
      dsimp only at *
      have z1 := hk.cell 1
      have z4 := hk.cell 4
      have z5 := hk.cell 5
      have y8 := hv.cell 0
      have y9 := hv2.cell 0
      have f8 := hv.frozen 0
      have f9 := hv2.frozen 0
      cases xp with
      | false =>
        have HV : Hid (((waitsOf (pre ++ [⟨⟨xv, xa, xh, xs⟩, xc, false, xl⟩])).length : Int) = ((waitsOf pre).length : Int) + 1) := Lib.hid (by rw [HNO.out rfl, List.length_append]; rfl)
        have HM := Lib.hid (HMN.out rfl)
        clear HYES HNO HMY HMN
        gi_wp2
        refine ⟨(KeepsOthers.setCell _ _ _).from _, ⟨(Below.refl _ _).setCell (p := ⟨X.heap.size + 1, 0, none⟩) (by dsimp only; omega) _, Below.heap_setCell _ _ _ _ (by dsimp only; omega), Below.heap_setCell _ _ _ _ (by dsimp only; omega)⟩, ⟨?_, ?_⟩, hT.far (p := ⟨X.heap.size + 1, 0, none⟩) (by dsimp only; omega) _, hB.setCell (p := ⟨X.heap.size + 1, 0, none⟩) (by dsimp only; omega) _⟩
        · rw [HM.out]; exact hv.far (p := ⟨X.heap.size + 1, 0, none⟩) (by dsimp only; omega) _
        · rw [HV.out]; exact hv2.set_ 0 _
      | true =>
        have HV := Lib.hid (HYES.out rfl)
        clear HYES HNO
        by_cases h1 : xa = -1
        · have q : (xa != -1) = false := by simp [h1]
          have HM := Lib.hid (HMN.out (by simp [h1]))
          clear HMY HMN h1
          gi_wp2
          exact ⟨KeepsFrom.refl _ _, ⟨Below.refl _ _, rfl, rfl⟩, ⟨by rw [HM.out]; exact hv, by rw [HV.out]; exact hv2⟩, hT, hB⟩
        · have q : (xa != -1) = true := by simp [h1]
          by_cases h2 : xa = xc
          · have q2 : (xa != xc) = false := by simp [h2]
            have HM := Lib.hid (HMN.out (by simp [h2]))
            clear HMY HMN h1 h2
            gi_wp2
            exact ⟨KeepsFrom.refl _ _, ⟨Below.refl _ _, rfl, rfl⟩, ⟨by rw [HM.out]; exact hv, by rw [HV.out]; exact hv2⟩, hT, hB⟩
          · have q2 : (xa != xc) = true := by simp [h2]
            have HM : Hid (((movesOf (pre ++ [⟨⟨xv, xa, xh, xs⟩, xc, true, xl⟩]) : Nat) : Int) = (movesOf pre : Int) + 1) := Lib.hid (by rw [HMY.out (by simp [h1, h2])]; rfl)
            clear HMY HMN h1 h2
            gi_wp2
            refine ⟨(KeepsOthers.setCell _ _ _).from _, ⟨(Below.refl _ _).setCell (p := ⟨X.heap.size, 0, none⟩) (by dsimp only; omega) _, Below.heap_setCell _ _ _ _ (by dsimp only; omega), Below.heap_setCell _ _ _ _ (by dsimp only; omega)⟩, ⟨?_, ?_⟩, hT.far (p := ⟨X.heap.size, 0, none⟩) (by dsimp only; omega) _, hB.setCell (p := ⟨X.heap.size, 0, none⟩) (by dsimp only; omega) _⟩
            · rw [HM.out]; exact hv.set_ 0 _
            · rw [HV.out]; exact hv2.far (p := ⟨X.heap.size, 0, none⟩) (by dsimp only; omega) _
    case done =>
      rintro D ys W hD rfl ⟨⟨hv, hv2⟩, hT, hB⟩ hK
      have y8 := hv.cell 0
      have y9 := hv2.cell 0
      have hszX' := hB4.size
      gi_wp2_with fail
      gi_region
      gi_wp2
      refine ⟨by simp, .inl ⟨_, _, rfl, run_takeDeferred (by exact hK), ?_⟩⟩
      exact ⟨_, results_tmp3 rfl _ _ _, rfl, HX.out.trans ((hB.drew.trans (belowK_b (w := X) (Nat.le_refl _) W.drew D _ _ (by omega) hK rfl rfl)).mono hszX)⟩
    case stop =>
      rintro D c pre W _ _ h _
      exact h.elim
  · rw [if_neg hE]
    have q : (whyE l s != 0) = true := by simpa using hE
    generalize whyE l s = E at *
    clear hE h256 hs hR hU hn hD HL
    refine (callsIn_wide (n := 5)).1 ?_
    refine callsIn_of_wp_marks Tryd.func11 rfl trivial ?_ rfl
    simp only [Tryd.ntmps11, List.size_toArray, List.length_cons, List.length_nil, Nat.reduceAdd, Nat.reduceSub, Array.replicate_succ, Array.replicate_zero, List.push_toArray, List.append_toArray, List.nil_append, List.cons_append]
    gi_wp2_with fail
    refine ⟨trivial, ?_⟩
    refine (callsIn_wide.2 HF.out).mono ?_
    rintro e X ⟨rfl, h2⟩
    gi_wp2
    exact ⟨_, results_tmp3 rfl _ _ _, rfl, h2⟩

end Go.Proofs.YtldleijocjohgaaDoor
