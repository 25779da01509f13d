/-
  The landed place: Waits. No statement is proved here.
-/
import Derived.Test.YtldleijocjohgaaDoorGf
import Derived.RangeFuncNested
import Derived.Maps.AppendAt
namespace Go.Proofs.YtldleijocjohgaaDoor
open Go.RowKit Go.Shelf

attribute [local go_sem] Oper.semAt_some

theorem own_blk {β : Type} (B : Nat) (t : TypeId) (cs : Array Value) : Go.Own (fun (_ : β) W => Blk W B t cs) := by
  rintro s X Y row hv hg hrow
  refine hv.grown hg (fun e' => ?_)
  obtain ⟨o, ho, hc⟩ := hrow B e'.symm
  rw [show X.heap[B]? = _ from hv] at ho; cases ho; cases hc
theorem Blk.not_row {W : World} {B : Nat} {t e : TypeId} {cs : Array Value} (h : Blk W B t cs) (hte : t ≠ e) {base size k : Nat} {v : Value} {xs : List Value} (hr : W.ownsRow base e size v k xs) : some B ≠ v.ownBlock := by
  rcases hr.2 with ⟨rfl, _⟩ | ⟨g, cap, cur, rfl, _, hgb, _⟩
  · simp [Value.ownBlock]
  · intro e'
    obtain rfl : B = g := by simpa [Value.ownBlock] using e'
    have := (show W.heap[B]? = _ from h).symm.trans hgb
    simp at this
    exact hte this.2
theorem blks5 (w : World) (t1 t2 t3 t4 t5 : TypeId) (a b c d e : Array Value) : Blk (((((w.alloc (.cells a t1)).alloc (.cells b t2)).alloc (.cells c t3)).alloc (.cells d t4)).alloc (.cells e t5)) w.heap.size t1 a ∧
    Blk (((((w.alloc (.cells a t1)).alloc (.cells b t2)).alloc (.cells c t3)).alloc (.cells d t4)).alloc (.cells e t5)) (w.heap.size + 1) t2 b ∧
    Blk (((((w.alloc (.cells a t1)).alloc (.cells b t2)).alloc (.cells c t3)).alloc (.cells d t4)).alloc (.cells e t5)) (w.heap.size + 1 + 1) t3 c ∧
    Blk (((((w.alloc (.cells a t1)).alloc (.cells b t2)).alloc (.cells c t3)).alloc (.cells d t4)).alloc (.cells e t5)) (w.heap.size + 1 + 1 + 1) t4 d ∧
    Blk (((((w.alloc (.cells a t1)).alloc (.cells b t2)).alloc (.cells c t3)).alloc (.cells d t4)).alloc (.cells e t5)) (w.heap.size + 1 + 1 + 1 + 1) t5 e ∧
    Below w.heap.size w (((((w.alloc (.cells a t1)).alloc (.cells b t2)).alloc (.cells c t3)).alloc (.cells d t4)).alloc (.cells e t5)) := by
  obtain ⟨h1, h2, h3, h4, hb⟩ := blks4 w t1 t2 t3 t4 a b c d
  have h5 := Blk.new ((((w.alloc (.cells a t1)).alloc (.cells b t2)).alloc (.cells c t3)).alloc (.cells d t4)) t5 e
  have s5 : ((((w.alloc (.cells a t1)).alloc (.cells b t2)).alloc (.cells c t3)).alloc (.cells d t4)).heap.size = w.heap.size + 1 + 1 + 1 + 1 := by simp
  rw [s5] at h5
  exact ⟨h1.alloc _, h2.alloc _, h3.alloc _, h4.alloc _, h5, hb.alloc hb.size _⟩
theorem own_down {w : World} {base base' n size : Nat} {e : TypeId} {v : Value} {xs : List Value} (h : w.ownsRow base e size v n xs) (hb : base' ≤ base) : w.ownsRow base' e size v n xs := by
  rcases h with ⟨h1, h2 | ⟨g, cap, cur, a, b, c⟩⟩
  · exact ⟨h1, .inl h2⟩
  · exact ⟨h1, .inr ⟨g, cap, cur, a, Nat.le_trans hb b, c⟩⟩
theorem why_small {l : List Wi} {s : Int} (h : whyE l s = 0) : s < 256 := by
  unfold whyE at h
  split at h
  · split at h
    · assumption
    · cases h
  · cases h
/-- what best takes, asked in whatever world that keeps what lay below -/
theorem best_asked {w0 : World} {n₀ b1 b2 : Nat} {ls : List Wi} (hD : Db w0) (hn : 0 < n₀) (hU : ∀ (k : Nat) (x : Wi), ls[k]? = some x → UW x) :
    ∀ (k : Nat) (x : Wi), ls[k]? = some x → ∀ S' : Nat, S' < 256 → ∀ u, Keeps2 n₀ b1 b2 w0 u → w0.heap.size ≤ u.heap.size → Calls Tryd.prog 28 #[.agg (wiA x), .int .u32 (S' : Int)] u (Said (.tuple #[.int .i64 (bestW x S').1, .bool (bestW x S').2]) u) :=
  fun k x hk S' hS' u hK _ => pbest_any x (hU k x hk) S' hS' u (hD.below hK.1 hn)
theorem told_asked {w0 : World} {n₀ b1 Bh : Nat} {F : Nat → Int} (K : Blk w0 Bh 71 (agH F)) {ls : List Wi} :
    ∀ (k : Nat) (x : Wi), ls[k]? = some x → ∀ S' : Nat, S' < 256 → ∀ u, Keeps2 n₀ b1 Bh w0 u → w0.heap.size ≤ u.heap.size → Calls Tryd.prog 37 #[.agg (wiA x), .int .u32 (S' : Int), .pointer (some ⟨Bh, 0, none⟩)] u (Said (.tuple #[.int .i64 (toldW F x S').1, .bool (toldW F x S').2]) u) :=
  fun _ x _ S' _ u hK _ => ptold_any x S' Bh F u (hK.2.2.trans K)

/-- numbers in a row of one's own, and a word -/
def NumsOf (l : List Int) (E : Int) (w : World) (e : Ending) (w' : World) : Prop := ∃ v, e = .returned (.tuple #[v, .int .i64 E]) ∧ w'.ownsRow w.heap.size 3 1 v l.length (vs l) ∧ Below w.heap.size w w'
def waitsL (l : List Wi) (s : Int) : List Int := if whyE l s = 0 then waitsOf (tus bestW l s.toNat) else []

set_option maxRecDepth 100000 in
set_option maxHeartbeats 4000000 in
theorem waits_any (A : Option Addr) (n c : Nat) (l : List Wi) (s : Int) (w : World) (hs : U32 s) (hR : Reads w w.heap.size 4 A n (wivs l)) (hU : ∀ (k : Nat) (x : Wi), l[k]? = some x → UW x) (hn : n ≤ 1000) (hD : Db w) :
    Calls Tryd.prog 10 #[.slice A n c, .int .u32 s] w (NumsOf (waitsL l s) (whyE l s) w) := by
  have HL := wishes_len hR
  have HF := Lib.hid (prefused_any A n c l s w hs hR hU hn)
  unfold waitsL
  have h256 : whyE l s = 0 → s < 256 := why_small
  by_cases hE : whyE l s = 0
  · obtain ⟨S, hS⟩ := Int.eq_ofNat_of_zero_le hs.1
    have hS256 : S < 256 := by have := h256 hE; omega
    subst hS
    rw [if_pos hE, hE, Int.toNat_natCast]
    rw [hE] at HF
    obtain ⟨i0, hi, hz0, hz1, hz2⟩ := info_parts int_info
    have HU := Lib.hid hU
    have HR := Lib.hid hR
    have HT := Lib.hid (fun u => turns_any A n c (S : Int) (.func 28) #[] u)
    have HD := Lib.hid hD
    have HN := Lib.hid hn
    have HS := Lib.hid hS256
    have HLL := Lib.hid HL
    clear hE h256 hs hR hU hD hn hS256 HL
    refine (callsIn_wide (n := 5)).1 ?_
    refine callsIn_of_wp_marks Tryd.func10 rfl trivial ?_ rfl
    simp only [Tryd.ntmps10, List.size_toArray, List.length_cons, List.length_nil, Nat.reduceAdd, Nat.reduceSub, Array.replicate_succ, Array.replicate_zero, List.push_toArray, List.append_toArray, List.nil_append, List.cons_append]
    gi_wp2_with fail
    refine ⟨trivial, ?_⟩
    refine (callsIn_wide.2 HF.out).mono ?_
    rintro e X ⟨rfl, h2⟩
    have HX := Lib.hid h2
    have hszX := h2.size
    clear h2
    gi_wp2_with fail
    refine ⟨trivial, ?_⟩
    refine (callsIn_wide.2 (HT.out _)).mono ?_
    rintro e V ⟨rfl, hV⟩
    gi_wp2_with fail
    obtain ⟨K7, K2, K1, K3, hB4⟩ := blks4 X 30 22 24 87 #[.slice none 0 0] #[.slice A n c] #[.int .u32 (S : Int)] #[.func (.func 28) #[] #[]]
    have hVs : ((((X.alloc (.cells #[.slice none 0 0] 30)).alloc (.cells #[.slice A n c] 22)).alloc (.cells #[.int .u32 (S : Int)] 24)).alloc (.cells #[.func (.func 28) #[] #[]] 87)).heap.size = X.heap.size + 1 + 1 + 1 + 1 := by simp
    generalize ((((X.alloc (.cells #[.slice none 0 0] 30)).alloc (.cells #[.slice A n c] 22)).alloc (.cells #[.int .u32 (S : Int)] 24)).alloc (.cells #[.func (.func 28) #[] #[]] 87)) = V at *
    have hgl : 0 < X.heap.size := Nat.lt_of_lt_of_le HD.out.lt hszX
    have hDV : Db V := (HD.out.below HX.out HD.out.lt).below hB4 hgl
    have hs := turnsBest_stops 4 (by decide) (X.heap.size + 1 + 1) (X.heap.size + 1) (X.heap.size + 1 + 1 + 1) X.heap.size (X.heap.size + 1 + 1 + 1) (X.heap.size + 1 + 1 + 1) A n c l S bestW V hB4.size K1 K2 K3 rfl K3.lt HS.out (((HR.out.below HX.out).more hszX).below hB4) HN.out (best_asked hDV hgl HU.out)
    have hlenT : (tus bestW l S).length ≤ 1000 := by rw [tus_length, HLL.out]; exact HN.out
    refine wpIn_rangeFunc_ownH rfl (by decide) (gf := 48) (lb := #[.pointer (some ⟨X.heap.size + 1 + 1, 0, none⟩), .pointer (some ⟨X.heap.size + 1, 0, none⟩), .pointer (some ⟨X.heap.size + 1 + 1 + 1, 0, none⟩)]) rfl trivial (enters_of Tryd.func48 (by kernel_rfl) rfl)
      hs keeps2_t (keeps2_b hB4.size K3.lt K3.lt) (Below.refl _ _) (fun _ => rfl)
      (fun pre W => (∃ v, Boxed W X.heap.size 30 v ∧ W.ownsRow X.heap.size 3 1 v (waitsOf pre).length (vs (waitsOf pre)) ∧ True) ∧ Boxed W (X.heap.size + 1 + 1 + 1) 87 (.func (.func 28) #[] #[]) ∧ Below X.heap.size X W)
      (fun _ _ _ => False)
      (OwnFrom.and (Own.from (holdsRow_own X.heap.size X.heap.size 30 3 1 (fun (pre : List Tu) => (waitsOf pre).length) (fun pre => vs (waitsOf pre)) (fun _ _ => True)) _) (OwnFrom.and (Own.from (own_blk _ _ _) _) (ownFrom_below (Nat.le_refl _) hB4.size)))
      (fun _ _ _ _ _ hs _ _ => hs)
      ⟨⟨_, K7, World.ownsRow_nil _ _ _ _, trivial⟩, K3, hB4⟩
      (fun x a' W => ∃ g, a' = { tmps := #[.slice A n c, .int .u32 (S : Int), undef, undef, .slice none 0 0, .int .i64 0, .int .i64 0, .pointer (some ⟨X.heap.size, 0, none⟩), .pointer (some ⟨g, 0, none⟩), .slice A n c, .int .u32 (S : Int), .int .i64 0, .int .i64 0, .bool false, undef, .slice A n c, .int .u32 (S : Int), .func (.func 48) #[] #[.pointer (some ⟨X.heap.size + 1 + 1, 0, none⟩), .pointer (some ⟨X.heap.size + 1, 0, none⟩), .pointer (some ⟨X.heap.size + 1 + 1 + 1, 0, none⟩)], .agg (tuA x), .int .u32 (x.left : Int), undef, undef, undef, undef, undef, undef, undef, undef, undef, undef], defers := [] } ∧ Blk W g 66 (tuA x) ∧ X.heap.size < g)
      (fun x a' _ W W' row ⟨g, e, hk, hlt⟩ hg hr => ⟨g, e, own_blk g _ _ () W W' row hk hg (fun r er => (hr r er).2), hlt⟩) ?assign ?body ?done ?stop
    case assign =>
      rintro l' pre x W K ⟨⟨v, hv, hrow, _⟩, hT, hB⟩ hK
      have hszW := hB.size
      have hT3 := hT.lt
      obtain ⟨⟨xv, xa, xh, xs⟩, xc, xp, xl⟩ := x
      unfold tuv tuA at *
      dsimp only at *
      gi_wp2
      exact hK _ _ ((KeepsOthers.alloc _ _).from _) (keeps2_of ((Below.refl _ _).alloc (Nat.le_refl _) _) hszW hT3 hT3) ⟨⟨v, hv.alloc _, hrow.alloc _, trivial⟩, hT.alloc _, hB.alloc hszW _⟩ ⟨W.heap.size, rfl, Blk.new _ _ _, by omega⟩
    case body =>
      rintro l' pre x a' W _ _ ⟨⟨v, hv, hrow, _⟩, hT, hB⟩ ⟨g, rfl, hk, hlt⟩ hlen
      have hplen : (waitsOf pre).length < 1000 := by have := waits_le pre; omega
      clear hlen
      have hszW := hB.size
      have HYES := Lib.hid (fun (h : x.p = true) => waits_yes (ts := pre) h)
      have HNO := Lib.hid (fun (h : x.p = false) => waits_no (ts := pre) h)
      obtain ⟨⟨xv, xa, xh, xs⟩, xc, xp, xl⟩ := x
      unfold tuA at *
      dsimp only at *
      have z0 := hk.cell 0
      have z5 := hk.cell 5
      cases xp with
      | true =>
        have HV := Lib.hid (HYES.out rfl)
        clear HYES HNO
        gi_wp2
        exact ⟨KeepsFrom.refl _ _, ⟨Below.refl _ _, rfl, rfl⟩, ⟨v, hv, by rw [HV.out]; exact hrow, trivial⟩, hT, hB⟩
      | false =>
        have HV := Lib.hid (HNO.out rfl)
        have hc := hv.cell
        clear HYES HNO
        gi_wp2_with (gi_at_builtin; refine wpListIn_append_own _ rfl _ _ 30 rfl X.heap.size 3 i0 (.int .i64 0) 1 8 Tryd.underlying30 hi hz0 hz1 hz2 rfl (by decide) _ _ _ rfl (hrow.alloc _) ⟨W.heap.size, 0, none⟩ 1 1 [.int .i64 xv] rfl rfl (cell_one_new _ _ _) (by simp [Value.oneCell']) (by simp only [maxLen]; omega) (by omega) (by have := hB.size; simp; omega) ?_; intro v' w1 hown' hgrow _; obtain ⟨g', cap', rfl⟩ := ownsRow_succ hown'; obtain ⟨hv1, hv2, hr2, hk2, hb2⟩ := hv.appended (by decide) hrow hB.size (Nat.le_refl _) hown' hgrow; have hc1 := hv1.cell; have hf1 := hv1.frozen; have hT1 : Boxed w1 (X.heap.size + 1 + 1 + 1) 87 (.func (.func 28) #[] #[]) := (Boxed.alloc hT _).kept hgrow (Boxed.not_row hT (by decide) hrow); have HT1 := Lib.hid hT1; have HTE : Hid (w1.heap[X.heap.size + 1 + 1 + 1]? = W.heap[X.heap.size + 1 + 1 + 1]?) := Lib.hid ((show _ = _ from hT1).trans (show _ = _ from hT).symm); clear hT1)
        refine ⟨hk2.from _, ⟨hb2, ?_, ?_⟩, ⟨_, hv2, ?_, trivial⟩, HT1.out.kept (grownBy_setCell' _ _ _) (by intro e; injection e with e; omega), hB.trans hb2⟩
        · exact (Below.heap_setCell _ _ _ _ (by simp; omega)).trans HTE.out
        · exact (Below.heap_setCell _ _ _ _ (by simp; omega)).trans HTE.out
        · rw [HV.out, vs_append, vs_one, List.length_append]; exact hr2
    case done =>
      rintro D ys W hD rfl ⟨⟨v, hv, hrow, _⟩, hT, hB⟩ hK
      have hc := hv.cell
      have hszX' := hB4.size
      gi_wp2
      refine ⟨by simp, .inl ⟨_, _, rfl, run_takeDeferred hK, ?_⟩⟩
      exact ⟨_, results_tmp2 rfl _ _ _, _, rfl, own_down (ownsRow_putObj hrow _ hK rfl) hszX, HX.out.trans ((hB.trans (belowK_b (w := X) (Nat.le_refl _) W D _ _ (by omega) hK rfl rfl)).mono hszX)⟩
    case stop =>
      rintro D c pre W _ _ h _
      exact h.elim
  · rw [if_neg hE]
    have q : (whyE l s != 0) = true := by simpa using hE
    generalize whyE l s = E at *
    clear hE h256 hs hR hU hn hD HL
    refine (callsIn_wide (n := 5)).1 ?_
    refine callsIn_of_wp_marks Tryd.func10 rfl trivial ?_ rfl
    simp only [Tryd.ntmps10, List.size_toArray, List.length_cons, List.length_nil, Nat.reduceAdd, Nat.reduceSub, Array.replicate_succ, Array.replicate_zero, List.push_toArray, List.append_toArray, List.nil_append, List.cons_append]
    gi_wp2_with fail
    refine ⟨trivial, ?_⟩
    refine (callsIn_wide.2 HF.out).mono ?_
    rintro e X ⟨rfl, h2⟩
    gi_wp2
    exact ⟨_, results_tmp2 rfl _ _ _, _, rfl, World.ownsRow_nil _ _ _ _, h2⟩

end Go.Proofs.YtldleijocjohgaaDoor
