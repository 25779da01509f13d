/-
  The landed place: Fair. No statement is proved here.
-/
import Derived.Test.YtldleijocjohgaaDoorGk
import Derived.RangeFuncNested
import Derived.Scope
import Derived.Maps.AppendAt
namespace Go.Proofs.YtldleijocjohgaaDoor
open Go.RowKit Go.Shelf

attribute [local go_sem] Oper.semAt_some

def fairV (l : List Wi) (s : Int) (ps : List (Int × Int)) : Bool := if whyE l s = 0 then fairP l s.toNat ps else false
theorem fair_said {l : List Wi} {S : Nat} {ps : List (Int × Int)} {b : Bool} {F : Nat → Int} (hb : holdB ps = b) (hF : holdF ps = F) : fairP l S ps = (b && ((tus (toldW F) l S).all okT && decide (putsOf (tus (toldW F) l S) = ps))) := by
  unfold fairP
  unfold holdB at hb
  unfold holdF at hF
  cases h : heldO ps with
  | none => rw [h] at hb; subst hb; rfl
  | some G => rw [h] at hb hF; subst hb; have hF : G = F := hF; subst hF; rfl
theorem all_snoc {pre : List Tu} {x : Tu} (h : pre.all okT = true) (hx : okT x = true) : (pre ++ [x]).all okT = true := by rw [List.all_append, h]; simp [hx]
theorem all_snoc_no {pre : List Tu} {x : Tu} (hx : okT x = false) : (pre ++ [x]).all okT = false := by rw [List.all_append]; simp [hx]
theorem all_prefix {pre l : List Tu} (h : pre <+: l) (hx : pre.all okT = false) : l.all okT = false := by
  obtain ⟨r, rfl⟩ := h
  rw [List.all_append, hx]; rfl
theorem map_snoc (pre : List GTu) (x : GTu) : (pre ++ [x]).map (·.1) = pre.map (·.1) ++ [x.1] := by simp

set_option maxRecDepth 100000 in
set_option maxHeartbeats 8000000 in
theorem fair_any (A : Option Addr) (n c : Nat) (l : List Wi) (s : Int) (A' : Option Addr) (n' c' : Nat) (ps : List (Int × Int)) (w : World) (hs : U32 s) (hR : Reads w w.heap.size 4 A n (wivs l)) (hU : ∀ (k : Nat) (x : Wi), l[k]? = some x → UW x) (hn : n ≤ 1000)
    (hP : Reads w w.heap.size 2 A' n' (svs ps)) (hn' : n' ≤ 1000) :
    Calls Tryd.prog 19 #[.slice A n c, .int .u32 s, .slice A' n' c'] w (Said (.tuple #[.bool (fairV l s ps), .int .i64 (whyE l s)]) w) := by
  have HL := wishes_len hR
  have HF := Lib.hid (prefused_any A n c l s w hs hR hU hn)
  unfold fairV
  have h256 : whyE l s = 0 → s < 256 := why_small
  by_cases hE : whyE l s = 0
  · obtain ⟨S, hS⟩ := Int.eq_ofNat_of_zero_le hs.1
    have hS256 : S < 256 := by have := h256 hE; omega
    subst hS
    rw [if_pos hE, hE, Int.toNat_natCast]
    rw [hE] at HF
    obtain ⟨i0, hi, hz0, hz1, hz2⟩ := info_parts put_info
    have HHo := Lib.hid (fun u h => holding_any A' n' c' ps u h hn')
    have HFS := Lib.hid (fun b F (hb : holdB ps = b) (hF : holdF ps = F) => fair_said (l := l) (S := S) hb hF)
    obtain ⟨b, hb⟩ : ∃ b, holdB ps = b := ⟨_, rfl⟩
    obtain ⟨F, hF⟩ : ∃ F, holdF ps = F := ⟨_, rfl⟩
    rw [HFS.out b F hb hF]
    rw [hb, hF] at HHo
    have HU := Lib.hid hU
    have HR := Lib.hid hR
    have HP := Lib.hid hP
    have HT := Lib.hid (fun u => turns_any A n c (S : Int) (.func 37) #[.pointer (some ⟨u.heap.size, 0, none⟩)] u)
    have HTU := Lib.hid (fun (caps : Array Value) u => turns_any A n c (S : Int) (.func 37) caps u)
    have HN := Lib.hid hn
    have HN' := Lib.hid hn'
    have HS := Lib.hid hS256
    have HLL := Lib.hid HL
    clear hE h256 hs hR hU hn hn' hS256 HL hP HT HFS hb hF
    refine (callsIn_wide (n := 5)).1 ?_
    refine callsIn_of_wp_marks Tryd.func19 rfl trivial ?_ rfl
    simp only [Tryd.ntmps19, List.size_toArray, List.length_cons, List.length_nil, Nat.reduceAdd, Nat.reduceSub, Array.replicate_succ, Array.replicate_zero, List.push_toArray, List.append_toArray, List.nil_append, List.cons_append]
    gi_wp2_with (refine wpIn_wide.2 (wp_scope_straight (wpIn_wide (n := 5).1 ?_)))
    refine ⟨trivial, ?_⟩
    refine (callsIn_wide.2 HF.out).mono ?_
    rintro e X1 ⟨rfl, h2⟩
    have HX1 := Lib.hid h2
    have hszX1 := h2.size
    clear h2
    gi_wp2_with fail
    refine ⟨trivial, ?_⟩
    refine (callsIn_wide.2 (HHo.out _ ((HP.out.below HX1.out).more hszX1))).mono ?_
    rintro e X ⟨rfl, h2⟩
    have HX := Lib.hid (HX1.out.trans (h2.mono hszX1))
    have hszX := HX.out.size
    clear h2
    unfold agH
    gi_wp2_with (apply wpIn_label)
    refine ⟨trivial, ?_⟩
    refine (callsIn_wide.2 (HTU.out _ _)).mono ?_
    rintro e V ⟨rfl, hV⟩
    gi_wp2_with fail
    clear hV
    obtain ⟨K9, K10, K12, K2, K1, hB5⟩ := blks5 X 71 4 26 22 24 #[.int .i64 (F 0), .int .i64 (F 1), .int .i64 (F 2), .int .i64 (F 3), .int .i64 (F 4), .int .i64 (F 5), .int .i64 (F 6), .int .i64 (F 7)] #[.bool b] #[.slice none 0 0] #[.slice A n c] #[.int .u32 (S : Int)]
    have K3 := Blk.new (((((X.alloc (.cells #[.int .i64 (F 0), .int .i64 (F 1), .int .i64 (F 2), .int .i64 (F 3), .int .i64 (F 4), .int .i64 (F 5), .int .i64 (F 6), .int .i64 (F 7)] 71)).alloc (.cells #[.bool b] 4)).alloc (.cells #[.slice none 0 0] 26)).alloc (.cells #[.slice A n c] 22)).alloc (.cells #[.int .u32 (S : Int)] 24)) 87 #[.func (.func 37) #[] #[.pointer (some ⟨X.heap.size, 0, none⟩)]]
    have hs5 : (((((X.alloc (.cells #[.int .i64 (F 0), .int .i64 (F 1), .int .i64 (F 2), .int .i64 (F 3), .int .i64 (F 4), .int .i64 (F 5), .int .i64 (F 6), .int .i64 (F 7)] 71)).alloc (.cells #[.bool b] 4)).alloc (.cells #[.slice none 0 0] 26)).alloc (.cells #[.slice A n c] 22)).alloc (.cells #[.int .u32 (S : Int)] 24)).heap.size = X.heap.size + 1 + 1 + 1 + 1 + 1 := by simp
    rw [hs5] at K3
    have hB6 := hB5.alloc hB5.size (.cells #[.func (.func 37) #[] #[.pointer (some ⟨X.heap.size, 0, none⟩)]] 87)
    replace K9 := K9.alloc (.cells #[.func (.func 37) #[] #[.pointer (some ⟨X.heap.size, 0, none⟩)]] 87)
    replace K10 := K10.alloc (.cells #[.func (.func 37) #[] #[.pointer (some ⟨X.heap.size, 0, none⟩)]] 87)
    replace K12 := K12.alloc (.cells #[.func (.func 37) #[] #[.pointer (some ⟨X.heap.size, 0, none⟩)]] 87)
    replace K2 := K2.alloc (.cells #[.func (.func 37) #[] #[.pointer (some ⟨X.heap.size, 0, none⟩)]] 87)
    replace K1 := K1.alloc (.cells #[.func (.func 37) #[] #[.pointer (some ⟨X.heap.size, 0, none⟩)]] 87)
    clear hB5 hs5
    generalize (((((X.alloc (.cells #[.int .i64 (F 0), .int .i64 (F 1), .int .i64 (F 2), .int .i64 (F 3), .int .i64 (F 4), .int .i64 (F 5), .int .i64 (F 6), .int .i64 (F 7)] 71)).alloc (.cells #[.bool b] 4)).alloc (.cells #[.slice none 0 0] 26)).alloc (.cells #[.slice A n c] 22)).alloc (.cells #[.int .u32 (S : Int)] 24)).alloc (.cells #[.func (.func 37) #[] #[.pointer (some ⟨X.heap.size, 0, none⟩)]] 87) = V at K9 K10 K12 K2 K1 K3 hB6 ⊢
    replace K9 : Blk V (X.heap.size) 71 (agH F) := K9
    have hs := turnsTold_stops 4 (by decide) (X.heap.size + 1 + 1 + 1 + 1) (X.heap.size + 1 + 1 + 1) (X.heap.size + 1 + 1 + 1 + 1 + 1) (X.heap.size) X.heap.size (X.heap.size + 1 + 1 + 1 + 1 + 1) (X.heap.size) A n c l S (toldW F) V hB6.size K1 K2 K3 rfl K9.lt HS.out (((HR.out.below HX.out).more hszX).below hB6) HN.out HU.out (told_asked K9)
    have hlenT : (tus (toldW F) l S).length ≤ 1000 := by rw [tus_length, HLL.out]; exact HN.out
    have HVS := Lib.hid hB6.size
    refine wpIn_rangeFunc_ownH rfl (by decide) (gf := 48) (lb := #[.pointer (some ⟨X.heap.size + 1 + 1 + 1 + 1, 0, none⟩), .pointer (some ⟨X.heap.size + 1 + 1 + 1, 0, none⟩), .pointer (some ⟨X.heap.size + 1 + 1 + 1 + 1 + 1, 0, none⟩)]) rfl trivial (enters_of Tryd.func48 (by kernel_rfl) rfl)
      hs keeps2_t (keeps2_b hB6.size K3.lt K9.lt) (Below.refl _ _) (fun _ => rfl)
      (fun (pre : List GTu) W => (∃ v, Boxed W (X.heap.size + 1 + 1) 26 v ∧ W.ownsRow X.heap.size 52 2 v (putsOf (pre.map (·.1))).length (svs (putsOf (pre.map (·.1)))) ∧ True) ∧ Blk W (X.heap.size + 1) 4 #[.bool b] ∧ Blk W (X.heap.size + 1 + 1 + 1 + 1 + 1) 87 #[.func (.func 37) #[] #[.pointer (some ⟨X.heap.size, 0, none⟩)]] ∧ Blk W (X.heap.size) 71 (agH F) ∧ (pre.map (·.1)).all okT = true ∧ Below X.heap.size X W)
      (fun c (pre : List GTu) W => c = .exit 0 ∧ Blk W (X.heap.size + 1) 4 #[.bool false] ∧ (pre.map (·.1)).all okT = false ∧ Below X.heap.size X W)
      (OwnFrom.and (Own.from (holdsRow_own X.heap.size (X.heap.size + 1 + 1) 26 52 2 (fun (pre : List GTu) => (putsOf (pre.map (·.1))).length) (fun pre => svs (putsOf (pre.map (·.1)))) (fun _ _ => True)) _) (OwnFrom.and (Own.from (own_blk _ _ _) _) (OwnFrom.and (Own.from (own_blk _ _ _) _) (OwnFrom.and (Own.from (own_blk _ _ _) _) (OwnFrom.and (fun _ _ _ _ h _ _ => h) (ownFrom_below (Nat.le_refl _) hB6.size))))))
      (fun c => OwnFrom.and (fun _ _ _ _ h _ _ => h) (OwnFrom.and (Own.from (own_blk _ _ _) _) (OwnFrom.and (fun _ _ _ _ h _ _ => h) (ownFrom_below (Nat.le_refl _) hB6.size))))
      ⟨⟨_, K12, World.ownsRow_nil _ _ _ _, trivial⟩, K10, K3, K9, rfl, hB6⟩
      (fun (x : GTu) a' W => ∃ g, a' = { tmps := #[.slice A n c, .int .u32 (S : Int), .slice A' n' c', undef, undef, undef, .bool false, .int .i64 0, .int .i64 0, .pointer (some ⟨X.heap.size, 0, none⟩), .pointer (some ⟨X.heap.size + 1, 0, none⟩), .func (.func 37) #[] #[.pointer (some ⟨X.heap.size, 0, none⟩)], .pointer (some ⟨X.heap.size + 1 + 1, 0, none⟩), .pointer (some ⟨g, 0, none⟩), .int .u32 (x.1.left : Int), undef, .slice A n c, .int .u32 (S : Int), .int .i64 0, .int .i64 0, .bool false, undef, .tuple #[.agg (agH F), .bool b], .slice A' n' c', .tuple #[.agg (agH F), .bool b], .agg (agH F), .bool b, .func (.func 37) #[] #[.pointer (some ⟨X.heap.size, 0, none⟩)], .slice A n c, .int .u32 (S : Int), .func (.func 37) #[] #[.pointer (some ⟨X.heap.size, 0, none⟩)], .func (.func 48) #[] #[.pointer (some ⟨X.heap.size + 1 + 1 + 1 + 1, 0, none⟩), .pointer (some ⟨X.heap.size + 1 + 1 + 1, 0, none⟩), .pointer (some ⟨X.heap.size + 1 + 1 + 1 + 1 + 1, 0, none⟩)], .agg (tuA x.1), .int .u32 (x.1.left : Int), undef, undef, undef, undef, undef, undef, undef, undef, undef, undef, undef, undef, undef, undef, undef, undef, undef, undef, undef, undef, undef, undef, undef, undef, undef, undef, undef, undef, undef, undef], defers := [] } ∧ Blk W g 66 (tuA x.1) ∧ X.heap.size + 1 + 1 + 1 + 1 + 1 < g)
      (fun x a' _ W W' row ⟨g, e, hk, hlt⟩ hg hr => ⟨g, e, own_blk g _ _ () W W' row hk hg (fun r er => (hr r er).2), hlt⟩) ?assign ?body ?done ?stop
    case assign =>
      rintro l' pre x W K ⟨⟨v, hv, hrow, _⟩, h10, hT, h9, hall, hB⟩ hK
      have hszW := hB.size
      have hT3 := hT.lt
      have h93 := h9.lt
      obtain ⟨⟨⟨xv, xa, xh, xs⟩, xc, xp, xl⟩, hgx⟩ := x
      unfold tuv tuA at *
      dsimp only at *
      gi_wp2
      exact hK _ _ ((KeepsOthers.alloc _ _).from _) (keeps2_of ((Below.refl _ _).alloc (Nat.le_refl _) _) hszW hT3 h93) ⟨⟨v, hv.alloc _, hrow.alloc _, trivial⟩, h10.alloc _, hT.alloc _, h9.alloc _, hall, hB.alloc hszW _⟩ ⟨W.heap.size, rfl, Blk.new _ _ _, hT3⟩
    case body =>
      rintro l' pre x a' W _ _ ⟨⟨v, hv, hrow, _⟩, h10, hT, h9, hall, hB⟩ ⟨g, rfl, hk, hlt⟩ hlen
      have hplen : (putsOf (pre.map (·.1))).length < 1000 := by have := puts_le (pre.map (·.1)); rw [List.length_map] at this; omega
      clear hlen
      have hszW := hB.size
      obtain ⟨x, hgx⟩ := x
      have hgu := hgx.1
      have hgl := hgx.2
      have HMS := Lib.hid (map_snoc pre ⟨x, hgx⟩)
      dsimp only at hgu hgl HMS hk
      have HYES := Lib.hid (fun (h : x.p = true) => puts_yes (ts := pre.map (·.1)) h)
      have HNO := Lib.hid (fun (h : x.p = false) => puts_no (ts := pre.map (·.1)) h)
      have HOK := Lib.hid (fun (h : okT x = true) => all_snoc hall h)
      have HBAD := Lib.hid (fun (h : okT x = false) => all_snoc_no (pre := pre.map (·.1)) h)
      have HPUT := Lib.hid (fun u => put_any x u)
      have HAL := Lib.hid (fun u => allows_any x.w.h x.w.s (x.left : Int) u hgu.1 hgu.2 ⟨by omega, by omega⟩)
      have hal : allowsR (x.w.h, x.w.s) (x.left : Int) < 256 := al_small hgu.1.1
      have HHAS := Lib.hid (fun u => has_any (allowsR (x.w.h, x.w.s) (x.left : Int) : Int) x.c u (by omega) (by omega))
      have HOT := Lib.hid (show okT x = (if x.p = true then hasB (allowsR (x.w.h, x.w.s) (x.left : Int) : Int) x.c else allowsR (x.w.h, x.w.s) (x.left : Int) == 0) from rfl)
      generalize pre.map (·.1) = pm at *
      obtain ⟨⟨xv, xa, xh, xs⟩, xc, xp, xl⟩ := x
      unfold tuA at *
      dsimp only at hk HYES HNO HOK HBAD HPUT HAL HHAS HOT hal ⊢
      generalize allowsR (xh, xs) (xl : Int) = al at *
      clear hgu hgl hal hall
      have z2 := hk.cell 2
      have z3 := hk.cell 3
      cases xp with
      | false =>
        have HV := Lib.hid (HNO.out rfl)
        clear HYES HNO HPUT HHAS
        by_cases ha : al = 0
        · have q : (((al : Nat) : Int) != 0) = false := by simp [ha]
          have HA := Lib.hid (HOK.out (by rw [HOT.out]; simp [ha]))
          clear HOK HBAD HOT ha
          gi_wp2_with fail
          refine ⟨trivial, ?_⟩
          refine (callsIn_wide.2 (HAL.out _)).mono ?_
          rintro e W2 ⟨rfl, h2⟩
          have L := Lib.hid (And.intro (Boxed.below' hv h2) (And.intro (own_below hrow h2) (And.intro (h10.below h2 h10.lt) (And.intro (hT.below h2 hT.lt) (And.intro (h9.below h2 h9.lt) (hB.trans (h2.mono hszW)))))))
          have HKO := Lib.hid (And.intro (KeepsOthers.of_grownBy (row := none) ⟨h2.os, h2.tape, h2.output, h2.size, fun k hk' _ => h2.block k hk'⟩ (fun j o e => by cases e)) (keeps2_of h2 hszW hT.lt h9.lt))
          have hk2 := hk.below h2 hk.lt
          clear z2 z3 h2 hk
          have z5 := hk2.cell 5
          gi_wp2_with fail
          refine ⟨trivial, ?_⟩
          gi_wp2
          exact ⟨HKO.out.1.from _, HKO.out.2, ⟨v, L.out.1, by rw [HMS.out, HV.out]; exact L.out.2.1, trivial⟩, L.out.2.2.1, L.out.2.2.2.1, L.out.2.2.2.2.1, by rw [HMS.out]; exact HA.out, L.out.2.2.2.2.2⟩
        · have q : (((al : Nat) : Int) != 0) = true := by simp [ha]
          have HA := Lib.hid (HBAD.out (by rw [HOT.out]; simp [ha]))
          clear HOK HBAD HOT ha
          gi_wp2_with fail
          refine ⟨trivial, ?_⟩
          refine (callsIn_wide.2 (HAL.out _)).mono ?_
          rintro e W2 ⟨rfl, h2⟩
          have L := Lib.hid (And.intro (h10.below h2 h10.lt) (hB.trans (h2.mono hszW)))
          have HKO := Lib.hid (KeepsOthers.of_grownBy (row := none) ⟨h2.os, h2.tape, h2.output, h2.size, fun k hk' _ => h2.block k hk'⟩ (fun j o e => by cases e))
          have hk2 := hk.below h2 hk.lt
          clear z2 z3 h2 hk
          have z5 := hk2.cell 5
          have y0 := L.out.1.cell 0
          have f0 := L.out.1.frozen 0
          gi_wp2_with fail
          refine ⟨trivial, ?_⟩
          gi_wp2
          exact ⟨(HKO.out.trans (KeepsOthers.setCell _ _ _)).from _, rfl, L.out.1.set_ 0 _, by rw [HMS.out]; exact HA.out, L.out.2.setCell (p := ⟨X.heap.size + 1, 0, none⟩) (by dsimp only; omega) _⟩
      | true =>
        cases hh : hasB (al : Int) xc with
        | false =>
          rw [hh] at HHAS
          have HA := Lib.hid (HBAD.out (by rw [HOT.out]; simp [hh]))
          clear HOK HBAD HOT hh HYES HNO HPUT
          gi_wp2_with fail
          refine ⟨trivial, ?_⟩
          refine (callsIn_wide.2 (HAL.out _)).mono ?_
          rintro e W2 ⟨rfl, h2⟩
          have L := Lib.hid (And.intro (h10.below h2 h10.lt) (hB.trans (h2.mono hszW)))
          have HKO := Lib.hid (KeepsOthers.of_grownBy (row := none) ⟨h2.os, h2.tape, h2.output, h2.size, fun k hk' _ => h2.block k hk'⟩ (fun j o e => by cases e))
          have hk2 := hk.below h2 hk.lt
          clear z2 z3 h2 hk
          have z4 := hk2.cell 4
          have z5 := hk2.cell 5
          have y0 := L.out.1.cell 0
          have f0 := L.out.1.frozen 0
          gi_wp2_with fail
          refine ⟨trivial, ?_⟩
          refine (callsIn_wide.2 (HHAS.out _)).mono ?_
          rintro e w4 ⟨rfl, rfl⟩
          gi_wp2
          exact ⟨(HKO.out.trans (KeepsOthers.setCell _ _ _)).from _, rfl, L.out.1.set_ 0 _, by rw [HMS.out]; exact HA.out, L.out.2.setCell (p := ⟨X.heap.size + 1, 0, none⟩) (by dsimp only; omega) _⟩
        | true =>
          rw [hh] at HHAS
          have HA := Lib.hid (HOK.out (by rw [HOT.out]; simp [hh]))
          have HV := Lib.hid (HYES.out rfl)
          clear HOK HBAD HOT hh HYES HNO
          obtain ⟨A1, c1, rfl, _, _⟩ := own_reads hrow
          gi_wp2_with fail
          refine ⟨trivial, ?_⟩
          refine (callsIn_wide.2 (HAL.out _)).mono ?_
          rintro e W1 ⟨rfl, h2⟩
          have HKO := Lib.hid (And.intro (KeepsOthers.of_grownBy (row := none) ⟨h2.os, h2.tape, h2.output, h2.size, fun k hk' _ => h2.block k hk'⟩ (fun j o e => by cases e)) (keeps2_of h2 hszW hT.lt h9.lt))
          replace hv := Boxed.below' hv h2
          replace hrow := own_below hrow h2
          replace h10 := h10.below h2 h10.lt
          replace hT := hT.below h2 hT.lt
          replace h9 := h9.below h2 h9.lt
          replace hB := hB.trans (h2.mono hszW)
          replace hk := hk.below h2 hk.lt
          clear z2 z3 h2 hszW
          have z4 := hk.cell 4
          have z5 := hk.cell 5
          gi_wp2_with fail
          refine ⟨trivial, ?_⟩
          refine (callsIn_wide.2 (HHAS.out _)).mono ?_
          rintro e W ⟨rfl, rfl⟩
          gi_wp2_with fail
          have hv9 : Boxed W1.drew (X.heap.size + 1) 4 (.bool b) := h10
          replace hv : Boxed W1.drew (X.heap.size + 1 + 1) 26 (.slice A1 (putsOf pm).length c1) := hv
          replace hrow : W1.drew.ownsRow X.heap.size 52 2 (.slice A1 (putsOf pm).length c1) (putsOf pm).length (svs (putsOf pm)) := hrow
          replace hT : Boxed W1.drew (X.heap.size + 1 + 1 + 1 + 1 + 1) 87 (.func (.func 37) #[] #[.pointer (some ⟨X.heap.size, 0, none⟩)]) := hT
          have h9 : Blk W1.drew (X.heap.size) 71 (agH F) := h9
          replace hk : Blk W1.drew g 66 #[.int .i64 xv, .int .i64 xa, .int .u32 xh, .int .u32 xs, .int .i64 xc, .bool true] := hk
          have HKD := Lib.hid (KeepsOthers.drew W1)
          have HBD := Lib.hid ((Below.refl X.heap.size W1).drew)
          have HTE : Hid (W1.drew.heap[X.heap.size + 1 + 1 + 1 + 1 + 1]? = W1.heap[X.heap.size + 1 + 1 + 1 + 1 + 1]?) := Lib.hid rfl
          have HHE : Hid (W1.drew.heap[X.heap.size]? = W1.heap[X.heap.size]?) := Lib.hid rfl
          replace hB := hB.drew
          clear z4 z5 h10
          refine region_in (S := fun u => Blk u g 66 #[.int .i64 xv, .int .i64 xa, .int .u32 xh, .int .u32 xs, .int .i64 xc, .bool true]) l' _ (fun _ _ h => h) (by kernel_rfl) (by kernel_rfl) hk (fun hS => ?_)
          have HTV := Lib.hid hT
          have HHV := Lib.hid h9
          generalize W1.drew = V2 at *
          have hszV := hB.size
          refine wpAnyH_take (i := 1) (v := .agg #[.int .i64 xv, .int .i64 xa, .int .u32 xh, .int .u32 xs, .int .i64 xc, .bool true]) rfl (by kernel_rfl) (by kernel_rfl) (by kernel_rfl) (fun _ _ _ h => h) (Or.inl ⟨by kernel_rfl, fun u hSw => (by have c0 := hSw.cell 0; have c1 := hSw.cell 1; have c2 := hSw.cell 2; have c3 := hSw.cell 3; have c4 := hSw.cell 4; have c5 := hSw.cell 5; go_simp)⟩) hS ?_
          refine wpAnyH_ready (rs := [0, 2]) (by kernel_rfl) (by simp) ?_
          refine AllReadyH.cons rfl (fun K hK => ?_) (AllReadyH.cons rfl (fun K hK => ?_) (AllReadyH.nil))
          · skip
            have hc := hv.cell
            go_simp
            refine hK.out _ _ hS (fun hS => ?_)
            clear hK K hc
            refine wpAnyH_ready (rs := [2]) (by kernel_rfl) (by simp) ?_
            refine AllReadyH.cons rfl (fun K hK => ?_) (AllReadyH.nil)
            go_simp
            refine (HPUT.out _).mono ?_
            rintro e W2 ⟨rfl, h2⟩
            have HKO2 := Lib.hid (KeepsOthers.of_grownBy (row := none) ⟨h2.os, h2.tape, h2.output, h2.size, fun k hk' _ => h2.block k hk'⟩ (fun j o e => by cases e))
            have hv2' := Boxed.below' hv h2
            have hv9' := Boxed.below' hv9 h2
            have hT' := Boxed.below' hT h2
            have hk' : Blk W2 g 66 #[.int .i64 xv, .int .i64 xa, .int .u32 xh, .int .u32 xs, .int .i64 xc, .bool true] := hk.below h2 hk.lt
            have hrow' := own_below hrow h2
            have hB2 := hB.trans (h2.mono hszV)
            have hszW2 := hB2.size
            have hBX := h2.mono hszV
            have h9' := h9.below h2 h9.lt
            refine hK.out _ _ hk' (fun hS => ?_)
            clear hK K hv hv9 hT hk hrow h2 h9
            refine wpAnyH_ready (rs := [3]) (by kernel_rfl) (by simp) ?_
            refine AllReadyH.cons rfl (fun K hK => ?_) (AllReadyH.nil)
            go_simp
            refine hK.out _ _ (hk'.alloc _) (fun hS => ?_)
            clear hK K
            refine wpAnyH_ready (rs := [4]) (by kernel_rfl) (by simp) ?_
            refine AllReadyH.cons rfl (fun K hK => ?_) (AllReadyH.nil)
            refine step_append_any _ rfl (.tmp 48) (.tmp 51) 26 rfl X.heap.size 52 i0 (.agg #[.int .i64 0, .int .i64 0]) 2 16 Tryd.underlying26 hi hz0 hz1 hz2 rfl (by decide) _ (putsOf pm).length _ rfl (hrow'.alloc _) _ (some ⟨W2.heap.size, 0, none⟩) 1 1 [.int .i64 xv, .int .i64 xc] rfl (reads_two (Blk.new W2 52 #[.int .i64 xv, .int .i64 xc])) (by simp [Value.oneCell']) (by simp only [maxLen]; omega) (by omega) (by simp; omega) ?_
            intro v' w1 hown' hgrow _
            obtain ⟨g', cap', rfl⟩ := ownsRow_succ hown'
            obtain ⟨hv1, hvn, hr2, hk2, hb2⟩ := Boxed.appended hv2' (by decide) hrow' hszW2 (by omega) hown' hgrow
            have hT1 : Boxed w1 (X.heap.size + 1 + 1 + 1 + 1 + 1) 87 _ := (Boxed.alloc hT' _).kept hgrow (Boxed.not_row hT' (by decide) hrow')
            have hT2 := Lib.hid (hT1.kept (grownBy_setCell' w1 (X.heap.size + 1 + 1) (.slice (some ⟨g', 0, none⟩) ((putsOf pm).length + 1) cap')) (by intro e; injection e with e; omega))
            have hN1 : Boxed w1 (X.heap.size + 1) 4 _ := (Boxed.alloc hv9' _).kept hgrow (Boxed.not_row hv9' (by decide) hrow')
            have hN2 := Lib.hid (hN1.kept (grownBy_setCell' w1 (X.heap.size + 1 + 1) (.slice (some ⟨g', 0, none⟩) ((putsOf pm).length + 1) cap')) (by intro e; injection e with e; omega))
            have hk1 : Blk w1 g 66 #[.int .i64 xv, .int .i64 xa, .int .u32 xh, .int .u32 xs, .int .i64 xc, .bool true] := (hk'.alloc _).grown hgrow (hk'.not_row (by decide) hrow')
            have hkn := Lib.hid (hk1.far (p := ⟨X.heap.size + 1 + 1, 0, none⟩) (by dsimp only; omega) (.slice (some ⟨g', 0, none⟩) ((putsOf pm).length + 1) cap'))
            have h91 := (h9'.alloc (.cells #[.int .i64 xv, .int .i64 xc] 52)).grown hgrow (h9'.not_row (by decide) hrow')
            have h92 := Lib.hid (h91.far (p := ⟨X.heap.size + 1 + 1, 0, none⟩) (by dsimp only; omega) (.slice (some ⟨g', 0, none⟩) ((putsOf pm).length + 1) cap'))
            clear h91 h9'
            have HF := Lib.hid (And.intro (HKO2.out.trans hk2) (And.intro (hBX.trans hb2) (And.intro hvn hr2)))
            have HBn := Lib.hid (hB2.trans hb2)
            refine hK.out _ _ hk1 (fun hS => ?_)
            clear hK K
            refine wpAnyH_ready (rs := [5]) (by kernel_rfl) (by simp) ?_
            refine AllReadyH.cons rfl (fun K hK => ?_) (AllReadyH.nil)
            have hc1 := hv1.cell
            have hf1 := hv1.frozen
            clear hv1 hvn hr2 hk2 hb2 hown' hgrow hS hT1 hN1 hk1 hB2 hBX
            go_simp
            refine hK.out _ _ hkn.out (fun hS => ?_)
            clear hK K hc1 hf1
            refine wpAnyH_done (by kernel_rfl) ?_ _
            clear hS
            generalize World.setCell w1 _ _ = Wn at HF HBn hT2 hN2 hkn h92 ⊢
            gi_wp2
            have hTe := (show _ = _ from hT2.out).trans ((show _ = _ from HTV.out).symm.trans HTE.out)
            have hHe := (show _ = _ from h92.out).trans ((show _ = _ from HHV.out).symm.trans HHE.out)
            refine ⟨(HKO.out.1.trans (HKD.out.trans HF.out.1)).from _, ⟨HKO.out.2.1.trans (HBD.out.trans HF.out.2.1), hTe.trans HKO.out.2.2.1, hHe.trans HKO.out.2.2.2⟩, ⟨_, HF.out.2.2.1, ?_, trivial⟩, hN2.out, hT2.out, h92.out, by rw [HMS.out]; exact HA.out, HBn.out⟩
            rw [HMS.out, HV.out, svs_append2, List.length_append]
            exact HF.out.2.2.2
          · skip
            go_simp
            refine (HPUT.out _).mono ?_
            rintro e W2 ⟨rfl, h2⟩
            have HKO2 := Lib.hid (KeepsOthers.of_grownBy (row := none) ⟨h2.os, h2.tape, h2.output, h2.size, fun k hk' _ => h2.block k hk'⟩ (fun j o e => by cases e))
            have hv2' := Boxed.below' hv h2
            have hv9' := Boxed.below' hv9 h2
            have hT' := Boxed.below' hT h2
            have hk' : Blk W2 g 66 #[.int .i64 xv, .int .i64 xa, .int .u32 xh, .int .u32 xs, .int .i64 xc, .bool true] := hk.below h2 hk.lt
            have hrow' := own_below hrow h2
            have hB2 := hB.trans (h2.mono hszV)
            have hszW2 := hB2.size
            have hBX := h2.mono hszV
            have h9' := h9.below h2 h9.lt
            refine hK.out _ _ hk' (fun hS => ?_)
            clear hK K hv hv9 hT hk hrow h2 h9
            refine wpAnyH_ready (rs := [0, 3]) (by kernel_rfl) (by simp) ?_
            refine AllReadyH.cons rfl (fun K hK => ?_) (AllReadyH.cons rfl (fun K hK => ?_) (AllReadyH.nil))
            · skip
              have hc := hv2'.cell
              go_simp
              refine hK.out _ _ hS (fun hS => ?_)
              clear hK K hc
              refine wpAnyH_ready (rs := [3]) (by kernel_rfl) (by simp) ?_
              refine AllReadyH.cons rfl (fun K hK => ?_) (AllReadyH.nil)
              go_simp
              refine hK.out _ _ (hk'.alloc _) (fun hS => ?_)
              clear hK K
              refine wpAnyH_ready (rs := [4]) (by kernel_rfl) (by simp) ?_
              refine AllReadyH.cons rfl (fun K hK => ?_) (AllReadyH.nil)
              refine step_append_any _ rfl (.tmp 48) (.tmp 51) 26 rfl X.heap.size 52 i0 (.agg #[.int .i64 0, .int .i64 0]) 2 16 Tryd.underlying26 hi hz0 hz1 hz2 rfl (by decide) _ (putsOf pm).length _ rfl (hrow'.alloc _) _ (some ⟨W2.heap.size, 0, none⟩) 1 1 [.int .i64 xv, .int .i64 xc] rfl (reads_two (Blk.new W2 52 #[.int .i64 xv, .int .i64 xc])) (by simp [Value.oneCell']) (by simp only [maxLen]; omega) (by omega) (by simp; omega) ?_
              intro v' w1 hown' hgrow _
              obtain ⟨g', cap', rfl⟩ := ownsRow_succ hown'
              obtain ⟨hv1, hvn, hr2, hk2, hb2⟩ := Boxed.appended hv2' (by decide) hrow' hszW2 (by omega) hown' hgrow
              have hT1 : Boxed w1 (X.heap.size + 1 + 1 + 1 + 1 + 1) 87 _ := (Boxed.alloc hT' _).kept hgrow (Boxed.not_row hT' (by decide) hrow')
              have hT2 := Lib.hid (hT1.kept (grownBy_setCell' w1 (X.heap.size + 1 + 1) (.slice (some ⟨g', 0, none⟩) ((putsOf pm).length + 1) cap')) (by intro e; injection e with e; omega))
              have hN1 : Boxed w1 (X.heap.size + 1) 4 _ := (Boxed.alloc hv9' _).kept hgrow (Boxed.not_row hv9' (by decide) hrow')
              have hN2 := Lib.hid (hN1.kept (grownBy_setCell' w1 (X.heap.size + 1 + 1) (.slice (some ⟨g', 0, none⟩) ((putsOf pm).length + 1) cap')) (by intro e; injection e with e; omega))
              have hk1 : Blk w1 g 66 #[.int .i64 xv, .int .i64 xa, .int .u32 xh, .int .u32 xs, .int .i64 xc, .bool true] := (hk'.alloc _).grown hgrow (hk'.not_row (by decide) hrow')
              have hkn := Lib.hid (hk1.far (p := ⟨X.heap.size + 1 + 1, 0, none⟩) (by dsimp only; omega) (.slice (some ⟨g', 0, none⟩) ((putsOf pm).length + 1) cap'))
              have h91 := (h9'.alloc (.cells #[.int .i64 xv, .int .i64 xc] 52)).grown hgrow (h9'.not_row (by decide) hrow')
              have h92 := Lib.hid (h91.far (p := ⟨X.heap.size + 1 + 1, 0, none⟩) (by dsimp only; omega) (.slice (some ⟨g', 0, none⟩) ((putsOf pm).length + 1) cap'))
              clear h91 h9'
              have HF := Lib.hid (And.intro (HKO2.out.trans hk2) (And.intro (hBX.trans hb2) (And.intro hvn hr2)))
              have HBn := Lib.hid (hB2.trans hb2)
              refine hK.out _ _ hk1 (fun hS => ?_)
              clear hK K
              refine wpAnyH_ready (rs := [5]) (by kernel_rfl) (by simp) ?_
              refine AllReadyH.cons rfl (fun K hK => ?_) (AllReadyH.nil)
              have hc1 := hv1.cell
              have hf1 := hv1.frozen
              clear hv1 hvn hr2 hk2 hb2 hown' hgrow hS hT1 hN1 hk1 hB2 hBX
              go_simp
              refine hK.out _ _ hkn.out (fun hS => ?_)
              clear hK K hc1 hf1
              refine wpAnyH_done (by kernel_rfl) ?_ _
              clear hS
              generalize World.setCell w1 _ _ = Wn at HF HBn hT2 hN2 hkn h92 ⊢
              gi_wp2
              have hTe := (show _ = _ from hT2.out).trans ((show _ = _ from HTV.out).symm.trans HTE.out)
              have hHe := (show _ = _ from h92.out).trans ((show _ = _ from HHV.out).symm.trans HHE.out)
              refine ⟨(HKO.out.1.trans (HKD.out.trans HF.out.1)).from _, ⟨HKO.out.2.1.trans (HBD.out.trans HF.out.2.1), hTe.trans HKO.out.2.2.1, hHe.trans HKO.out.2.2.2⟩, ⟨_, HF.out.2.2.1, ?_, trivial⟩, hN2.out, hT2.out, h92.out, by rw [HMS.out]; exact HA.out, HBn.out⟩
              rw [HMS.out, HV.out, svs_append2, List.length_append]
              exact HF.out.2.2.2
            · skip
              go_simp
              refine hK.out _ _ (hk'.alloc _) (fun hS => ?_)
              clear hK K
              refine wpAnyH_ready (rs := [0]) (by kernel_rfl) (by simp) ?_
              refine AllReadyH.cons rfl (fun K hK => ?_) (AllReadyH.nil)
              have hc := (Boxed.alloc hv2' (.cells #[.int .i64 xv, .int .i64 xc] 52)).cell
              go_simp
              refine hK.out _ _ hS (fun hS => ?_)
              clear hK K hc
              refine wpAnyH_ready (rs := [4]) (by kernel_rfl) (by simp) ?_
              refine AllReadyH.cons rfl (fun K hK => ?_) (AllReadyH.nil)
              refine step_append_any _ rfl (.tmp 48) (.tmp 51) 26 rfl X.heap.size 52 i0 (.agg #[.int .i64 0, .int .i64 0]) 2 16 Tryd.underlying26 hi hz0 hz1 hz2 rfl (by decide) _ (putsOf pm).length _ rfl (hrow'.alloc _) _ (some ⟨W2.heap.size, 0, none⟩) 1 1 [.int .i64 xv, .int .i64 xc] rfl (reads_two (Blk.new W2 52 #[.int .i64 xv, .int .i64 xc])) (by simp [Value.oneCell']) (by simp only [maxLen]; omega) (by omega) (by simp; omega) ?_
              intro v' w1 hown' hgrow _
              obtain ⟨g', cap', rfl⟩ := ownsRow_succ hown'
              obtain ⟨hv1, hvn, hr2, hk2, hb2⟩ := Boxed.appended hv2' (by decide) hrow' hszW2 (by omega) hown' hgrow
              have hT1 : Boxed w1 (X.heap.size + 1 + 1 + 1 + 1 + 1) 87 _ := (Boxed.alloc hT' _).kept hgrow (Boxed.not_row hT' (by decide) hrow')
              have hT2 := Lib.hid (hT1.kept (grownBy_setCell' w1 (X.heap.size + 1 + 1) (.slice (some ⟨g', 0, none⟩) ((putsOf pm).length + 1) cap')) (by intro e; injection e with e; omega))
              have hN1 : Boxed w1 (X.heap.size + 1) 4 _ := (Boxed.alloc hv9' _).kept hgrow (Boxed.not_row hv9' (by decide) hrow')
              have hN2 := Lib.hid (hN1.kept (grownBy_setCell' w1 (X.heap.size + 1 + 1) (.slice (some ⟨g', 0, none⟩) ((putsOf pm).length + 1) cap')) (by intro e; injection e with e; omega))
              have hk1 : Blk w1 g 66 #[.int .i64 xv, .int .i64 xa, .int .u32 xh, .int .u32 xs, .int .i64 xc, .bool true] := (hk'.alloc _).grown hgrow (hk'.not_row (by decide) hrow')
              have hkn := Lib.hid (hk1.far (p := ⟨X.heap.size + 1 + 1, 0, none⟩) (by dsimp only; omega) (.slice (some ⟨g', 0, none⟩) ((putsOf pm).length + 1) cap'))
              have h91 := (h9'.alloc (.cells #[.int .i64 xv, .int .i64 xc] 52)).grown hgrow (h9'.not_row (by decide) hrow')
              have h92 := Lib.hid (h91.far (p := ⟨X.heap.size + 1 + 1, 0, none⟩) (by dsimp only; omega) (.slice (some ⟨g', 0, none⟩) ((putsOf pm).length + 1) cap'))
              clear h91 h9'
              have HF := Lib.hid (And.intro (HKO2.out.trans hk2) (And.intro (hBX.trans hb2) (And.intro hvn hr2)))
              have HBn := Lib.hid (hB2.trans hb2)
              refine hK.out _ _ hk1 (fun hS => ?_)
              clear hK K
              refine wpAnyH_ready (rs := [5]) (by kernel_rfl) (by simp) ?_
              refine AllReadyH.cons rfl (fun K hK => ?_) (AllReadyH.nil)
              have hc1 := hv1.cell
              have hf1 := hv1.frozen
              clear hv1 hvn hr2 hk2 hb2 hown' hgrow hS hT1 hN1 hk1 hB2 hBX
              go_simp
              refine hK.out _ _ hkn.out (fun hS => ?_)
              clear hK K hc1 hf1
              refine wpAnyH_done (by kernel_rfl) ?_ _
              clear hS
              generalize World.setCell w1 _ _ = Wn at HF HBn hT2 hN2 hkn h92 ⊢
              gi_wp2
              have hTe := (show _ = _ from hT2.out).trans ((show _ = _ from HTV.out).symm.trans HTE.out)
              have hHe := (show _ = _ from h92.out).trans ((show _ = _ from HHV.out).symm.trans HHE.out)
              refine ⟨(HKO.out.1.trans (HKD.out.trans HF.out.1)).from _, ⟨HKO.out.2.1.trans (HBD.out.trans HF.out.2.1), hTe.trans HKO.out.2.2.1, hHe.trans HKO.out.2.2.2⟩, ⟨_, HF.out.2.2.1, ?_, trivial⟩, hN2.out, hT2.out, h92.out, by rw [HMS.out]; exact HA.out, HBn.out⟩
              rw [HMS.out, HV.out, svs_append2, List.length_append]
              exact HF.out.2.2.2
    case done =>
      rintro D ys W hD hys ⟨⟨v, hv, hrow, _⟩, h10, hT, h9, hall, hB⟩ hK
      rw [hys] at hrow hall
      obtain ⟨A1, c1, rfl, _, hRr⟩ := own_reads hrow
      have y10 := h10.cell 0
      have y12 := hv.cell
      have hszX' := HVS.out
      have HQ := Lib.hid (equal_any A1 A' _ c1 n' c' _ ps W hRr (((HP.out.below HX.out).more hszX).below hB |>.more hB.size) (by have := puts_le (tus (toldW F) l S); unfold maxLen; omega))
      have HBX := Lib.hid (HX.out.trans (hB.mono hszX))
      have HAL := Lib.hid hall
      have HK := Lib.hid hK
      have HWsz := Lib.hid (Array.getElem?_eq_some_iff.1 hK).1
      have HHB := Lib.hid hB
      clear hRr hall hrow hv h10 hT h9 hys hK hB
      cases b with
      | false =>
        gi_wp2_with fail
        refine ⟨trivial, ?_⟩
        gi_wp2
        try rw [Exit.noGoto_ret]
        refine ⟨by simp, .inl ⟨_, _, rfl, run_takeDeferred HK.out, ?_⟩⟩
        exact ⟨_, results_tmp2 rfl _ _ _, rfl, HX.out.trans ((HHB.out.trans (belowK_b (w := X) (Nat.le_refl _) W D _ _ (by omega) HK.out rfl rfl)).mono hszX)⟩
      | true =>
        gi_wp2_with fail
        refine ⟨trivial, ?_⟩
        refine (callsIn_wide.2 HQ.out).mono ?_
        rintro e W2 ⟨rfl, h2⟩
        have hK2 := (h2.block D HWsz.out).trans HK.out
        have hB2 := HHB.out.trans (h2.mono HHB.out.size)
        clear h2
        gi_wp2
        try rw [Exit.noGoto_ret]
        refine ⟨by simp, .inl ⟨_, _, rfl, run_takeDeferred hK2, ?_⟩⟩
        exact ⟨_, results_tmp2 rfl _ _ _, by rw [HAL.out]; rfl, HX.out.trans ((hB2.trans (belowK_b (w := X) (Nat.le_refl _) W2 D _ _ (by omega) hK2 rfl rfl)).mono hszX)⟩
    case stop =>
      rintro D c pre W hD hpre ⟨rfl, h10, hbad, hB⟩ hK
      have y10 := h10.cell 0
      have hszX' := HVS.out
      have HAL := Lib.hid (all_prefix hpre hbad)
      have HK := Lib.hid hK
      have HHB := Lib.hid hB
      clear h10 hbad hpre hK hB
      gi_wp2_with fail
      refine ⟨trivial, ?_⟩
      gi_wp2
      try rw [Exit.noGoto_ret]
      refine ⟨by simp, .inl ⟨_, _, rfl, run_takeDeferred HK.out, ?_⟩⟩
      exact ⟨_, results_tmp2 rfl _ _ _, by rw [HAL.out]; cases b <;> rfl, HX.out.trans ((HHB.out.trans (belowK_b (w := X) (Nat.le_refl _) W D _ _ (by omega) HK.out rfl rfl)).mono hszX)⟩
  · rw [if_neg hE]
    have q : (whyE l s != 0) = true := by simpa using hE
    generalize whyE l s = E at *
    clear hE h256 hs hR hU hn hP hn' HL
    refine (callsIn_wide (n := 5)).1 ?_
    refine callsIn_of_wp_marks Tryd.func19 rfl trivial ?_ rfl
    simp only [Tryd.ntmps19, List.size_toArray, List.length_cons, List.length_nil, Nat.reduceAdd, Nat.reduceSub, Array.replicate_succ, Array.replicate_zero, List.push_toArray, List.append_toArray, List.nil_append, List.cons_append]
    gi_wp2_with (refine wpIn_wide.2 (wp_scope_straight (wpIn_wide (n := 5).1 ?_)))
    refine ⟨trivial, ?_⟩
    refine (callsIn_wide.2 HF.out).mono ?_
    rintro e X ⟨rfl, h2⟩
    gi_wp2
    try rw [Exit.noGoto_ret]
    exact ⟨_, results_tmp2 rfl _ _ _, rfl, h2⟩

end Go.Proofs.YtldleijocjohgaaDoor
