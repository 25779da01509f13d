/-
  The contract of the document's Split, of pools that may be. No statement is proved here.
-/
import Derived.Test.YtnckfgnhlnichaaVd
import Derived.Deep.CutBlock
import Derived.Deep.RegionHeld3
namespace Go.Proofs.Ytnckfgnhlnichaa
open Go.RowKit

theorem results_pools3 {P : Program} {fn : Func} {p q r : Tmp} {ty : TypeId} (h : fn.results = #[.cell p ty, .tmp q, .tmp r]) (tmps : Array Value) (w : World) (g : Nat) (t : TypeId) (cs : Array Value) (d : TypeDesc)
    (hp : tmps.getD p undef = .pointer (some ⟨g, 0, none⟩)) (hg : w.heap[g]? = some (.cells cs t (0, 0)))
    (hu : P.underlying ty = some d) (hd : (match d with | .struct _ | .array _ _ => true | _ => false) = true) (hi : (P.info? ty).map (·.size) = some cs.size) :
    (results fn tmps).run P w = .ok (.tuple #[.agg cs, tmps.getD q undef, tmps.getD r undef]) w := by
  have hp' : tmps[p]?.getD undef = .pointer (some ⟨g, 0, none⟩) := by simpa using hp
  simp [results, h, hp', asAddr, run_loadVar_row w g t ty cs (0, 0) d hg hu hd hi]
theorem results_pools2 {P : Program} {fn : Func} {p q : Tmp} {ty : TypeId} (h : fn.results = #[.cell p ty, .tmp q]) (tmps : Array Value) (w : World) (g : Nat) (t : TypeId) (cs : Array Value) (d : TypeDesc)
    (hp : tmps.getD p undef = .pointer (some ⟨g, 0, none⟩)) (hg : w.heap[g]? = some (.cells cs t (0, 0)))
    (hu : P.underlying ty = some d) (hd : (match d with | .struct _ | .array _ _ => true | _ => false) = true) (hi : (P.info? ty).map (·.size) = some cs.size) :
    (results fn tmps).run P w = .ok (.tuple #[.agg cs, tmps.getD q undef]) w := by
  have hp' : tmps[p]?.getD undef = .pointer (some ⟨g, 0, none⟩) := by simpa using hp
  simp [results, h, hp', asAddr, run_loadVar_row w g t ty cs (0, 0) d hg hu hd hi]
/-- a call answers pools in memory of their own, a number and an error -/
def GivesP3 (r : List Nat × Int × Int) (w : World) (e : Ending) (w' : World) : Prop :=
  ∃ A c, e = .returned (.tuple #[.agg #[.slice A r.1.length c], .int .i64 r.2.1, .int .i64 r.2.2]) ∧ w'.ownsRow w.heap.size 29 1 (.slice A r.1.length c) r.1.length (us r.1) ∧ Below w.heap.size w w'
theorem GivesP3.none_ {w w' : World} {n c : Int} (hb : Below w.heap.size w w') : GivesP3 ([], n, c) w (.returned (.tuple #[.agg #[.slice none 0 0], .int .i64 n, .int .i64 c])) w' :=
  ⟨none, 0, rfl, World.ownsRow_nil _ _ _ _, hb⟩
def GivesP2 (r : List Nat × Int) (w : World) (e : Ending) (w' : World) : Prop :=
  ∃ A c, e = .returned (.tuple #[.agg #[.slice A r.1.length c], .int .i64 r.2]) ∧ w'.ownsRow w.heap.size 29 1 (.slice A r.1.length c) r.1.length (us r.1) ∧ Below w.heap.size w w'
theorem GivesP2.none_ {w w' : World} {c : Int} (hb : Below w.heap.size w w') : GivesP2 ([], c) w (.returned (.tuple #[.agg #[.slice none 0 0], .int .i64 c])) w' :=
  ⟨none, 0, rfl, World.ownsRow_nil _ _ _ _, hb⟩
theorem reads_u1 (w : World) (t : TypeId) (x : Nat) : Reads (w.alloc (.cells #[.int .u32 (x : Int)] t)) (w.alloc (.cells #[.int .u32 (x : Int)] t)).heap.size 1 (some ⟨w.heap.size, 0, none⟩) 1 (us [x]) := by
  refine ⟨rfl, fun _ => ⟨_, rfl, by simp, fun j u hu => ?_⟩⟩
  have hb := Blk.new w t #[.int .u32 (x : Int)]
  match j, hu with
  | 0, hu => simp [us] at hu; subst hu; exact hb.cell 0
  | j + 1, hu => simp [us] at hu

theorem reads_u1' (w : World) (t : TypeId) (x : Nat) {g : Nat} (hg : g = w.heap.size) : Reads (w.alloc (.cells #[.int .u32 (x : Int)] t)) (w.alloc (.cells #[.int .u32 (x : Int)] t)).heap.size 1 (some ⟨g, 0, none⟩) 1 (us [x]) := by
  subst hg
  exact reads_u1 w t x

set_option maxRecDepth 100000 in
set_option maxHeartbeats 16000000 in
theorem rsplit_any (A : Option Addr) (n c : Nat) (l : List Nat) (f : Int) (s : Nat) (w : World) (hR : Reads w w.heap.size 1 A n (us l)) (hr : rightP l = true) (hs : s < 4294967296) :
    Calls Try.prog 32 #[.agg #[.slice A n c], .int .i64 f, .int .u32 (s : Int)] w (GivesP3 (splitV l f s) w) := by
  obtain ⟨i0, hi0, hz0, hz1, hz2⟩ := info_parts8 cpus_info
  have hl := usets_len hR
  obtain ⟨r1, r4, rs, _⟩ := right_parts8 hr
  have HRt := Lib.hid (fun u => rright_any (s : Int) u)
  have HPl := Lib.hid (fun u => rpool_any A n c l f u hl)
  obtain ⟨K1, K2, B⟩ := blks2 w 24 24 #[.slice A n c] #[.slice none 0 0]
  have k1 : ((w.alloc (.cells #[.slice A n c] 24)).alloc (.cells #[.slice none 0 0] 24)).cell? ⟨w.heap.size, 0, none⟩ = some (.slice A n c) := K1.cell 0
  cases hp : poolB l f with
  | false =>
    rw [hp] at HPl
    have HV : Hid (splitV l f s = ([], 0, 4)) := Lib.hid (if_pos hp)
    clear hp hr hR hs hi0 hz0 hz1 hz2 rs
    go_enter Try.func32, Try.ntmps32
    go_wp2_with fail
    refine (HPl.out _).mono ?_
    rintro e w3 ⟨rfl, h9⟩
    replace K1 := K1.below h9 K1.lt
    replace K2 := K2.below h9 K2.lt
    replace B := B.trans (h9.mono B.size)
    clear h9 k1
    have k2 := K2.cell 0
    have f2 := K2.frozen 0
    have HKF := Lib.hid (put1 (x := .slice none 0 0) K2 B (by omega))
    clear K1 K2 B
    go_wp2_with fail
    rw [HV.out]
    exact bodyPost_ret (v := .tuple #[.agg #[.slice none 0 0], .int .i64 0, .int .i64 4]) (results_pools3 Try.results32 _ _ _ _ _ _ rfl HKF.out.1 Try.underlying24 rfl (by kernel_rfl)) rfl (GivesP3.none_ HKF.out.2)
  | true =>
    rw [hp] at HPl
    obtain ⟨k, rfl, hkl⟩ := poolB_true hp
    obtain ⟨ad, x, rfl, had, hxl, hx⟩ := uset_at hR (k := k) (by omega)
    obtain ⟨x8, x0⟩ := sets_at rs hxl
    have j0 : (0 : Int) ≤ (k : Int) := by omega
    have j1 : (k : Int) < (n : Int) := by omega
    have n4 : (n : Int) ≤ 4 := by omega
    have HWi := Lib.hid (fun u => rwithin_any (s : Int) (x : Int) u (by omega) (by omega))
    have hgx : l.getD k 0 = x := getD_at hxl
    by_cases h8 : s < 256
    · rw [decide_eq_true (show (s : Int) < 256 by omega)] at HRt
      by_cases h0 : s = 0
      · have HV : Hid (splitV l (k : Int) s = ([], 0, 2)) := Lib.hid (by unfold splitV; rw [if_neg (by rw [hp]; simp), if_neg (by omega), if_pos (.inl h0)])
        have hz : ((s : Int) == 0) = true := by simp; omega
        clear hp hr hR hs hi0 hz0 hz1 hz2 rs h0 h8
        go_enter Try.func32, Try.ntmps32
        go_wp2_with fail
        refine (HPl.out _).mono ?_
        rintro e w3 ⟨rfl, h9⟩
        replace K1 := K1.below h9 K1.lt
        replace K2 := K2.below h9 K2.lt
        replace B := B.trans (h9.mono B.size)
        clear h9 k1
        go_wp2_with fail
        refine (HRt.out _).mono ?_
        rintro e w4 ⟨rfl, rfl⟩
        have k1 : w3.cell? ⟨w.heap.size, 0, none⟩ = some (.slice (some ad) n c) := K1.cell 0
        have d1 : w3.cell? (ad.add k) = some (.int .u32 (x : Int)) := (B.cell (p := ad.add k) (by rw [block_of_add]; exact had)).trans hx
        have k2 := K2.cell 0
        have f2 := K2.frozen 0
        have HKF := Lib.hid (put1 (x := .slice none 0 0) K2 B (by omega))
        clear K1 K2 B
        go_wp2_with fail
        rw [HV.out]
        exact bodyPost_ret (v := .tuple #[.agg #[.slice none 0 0], .int .i64 0, .int .i64 2]) (results_pools3 Try.results32 _ _ _ _ _ _ rfl HKF.out.1 Try.underlying24 rfl (by kernel_rfl)) rfl (GivesP3.none_ HKF.out.2)
      · have hz : ((s : Int) == 0) = false := by simp; omega
        cases hw : withinV (mem (s : Int)) (x : Int) with
        | false =>
          rw [hw] at HWi
          have HV : Hid (splitV l (k : Int) s = ([], 0, 2)) := Lib.hid (by unfold splitV; rw [if_neg (by rw [hp]; simp), if_neg (by omega), if_pos (.inr (by rw [Int.toNat_natCast, hgx]; exact hw))])
          clear hp hr hR hs hi0 hz0 hz1 hz2 rs h0 h8 hw
          go_enter Try.func32, Try.ntmps32
          go_wp2_with fail
          refine (HPl.out _).mono ?_
          rintro e w3 ⟨rfl, h9⟩
          replace K1 := K1.below h9 K1.lt
          replace K2 := K2.below h9 K2.lt
          replace B := B.trans (h9.mono B.size)
          clear h9 k1
          go_wp2_with fail
          refine (HRt.out _).mono ?_
          rintro e w4 ⟨rfl, rfl⟩
          have k1 : w3.cell? ⟨w.heap.size, 0, none⟩ = some (.slice (some ad) n c) := K1.cell 0
          have d1 : w3.cell? (ad.add k) = some (.int .u32 (x : Int)) := (B.cell (p := ad.add k) (by rw [block_of_add]; exact had)).trans hx
          go_wp2_with fail
          refine (HWi.out _).mono ?_
          rintro e w5 ⟨rfl, h9⟩
          replace K1 := K1.below h9 K1.lt
          replace K2 := K2.below h9 K2.lt
          replace B := B.trans (h9.mono B.size)
          clear h9 k1 d1
          have k1 : w5.cell? ⟨w.heap.size, 0, none⟩ = some (.slice (some ad) n c) := K1.cell 0
          have d1 : w5.cell? (ad.add k) = some (.int .u32 (x : Int)) := (B.cell (p := ad.add k) (by rw [block_of_add]; exact had)).trans hx
          have k2 := K2.cell 0
          have f2 := K2.frozen 0
          have HKF := Lib.hid (put1 (x := .slice none 0 0) K2 B (by omega))
          clear K1 K2 B
          go_wp2_with fail
          rw [HV.out]
          exact bodyPost_ret (v := .tuple #[.agg #[.slice none 0 0], .int .i64 0, .int .i64 2]) (results_pools3 Try.results32 _ _ _ _ _ _ rfl HKF.out.1 Try.underlying24 rfl (by kernel_rfl)) rfl (GivesP3.none_ HKF.out.2)
        | true =>
          rw [hw] at HWi
          have hsx := within_le h8 hw
          have hno : ¬ (s = 0 ∨ withinV (mem (s : Int)) (l.getD (k : Int).toNat 0 : Nat) = false) := by
            rintro (h | h)
            · exact h0 h
            · rw [Int.toNat_natCast, hgx, hw] at h; cases h
          by_cases he : s = x
          · have HV : Hid (splitV l (k : Int) s = ([], 0, 181)) := Lib.hid (by unfold splitV; rw [if_neg (by rw [hp]; simp), if_neg (by omega), if_neg hno, if_pos (by rw [Int.toNat_natCast, hgx]; exact he)])
            have hq : ((s : Int) == (x : Int)) = true := by simp; omega
            clear hp hr hR hs hi0 hz0 hz1 hz2 rs h0 h8 hw he hno
            go_enter Try.func32, Try.ntmps32
            go_wp2_with fail
            refine (HPl.out _).mono ?_
            rintro e w3 ⟨rfl, h9⟩
            replace K1 := K1.below h9 K1.lt
            replace K2 := K2.below h9 K2.lt
            replace B := B.trans (h9.mono B.size)
            clear h9 k1
            go_wp2_with fail
            refine (HRt.out _).mono ?_
            rintro e w4 ⟨rfl, rfl⟩
            have k1 : w3.cell? ⟨w.heap.size, 0, none⟩ = some (.slice (some ad) n c) := K1.cell 0
            have d1 : w3.cell? (ad.add k) = some (.int .u32 (x : Int)) := (B.cell (p := ad.add k) (by rw [block_of_add]; exact had)).trans hx
            go_wp2_with fail
            refine (HWi.out _).mono ?_
            rintro e w5 ⟨rfl, h9⟩
            replace K1 := K1.below h9 K1.lt
            replace K2 := K2.below h9 K2.lt
            replace B := B.trans (h9.mono B.size)
            clear h9 k1 d1
            have k1 : w5.cell? ⟨w.heap.size, 0, none⟩ = some (.slice (some ad) n c) := K1.cell 0
            have d1 : w5.cell? (ad.add k) = some (.int .u32 (x : Int)) := (B.cell (p := ad.add k) (by rw [block_of_add]; exact had)).trans hx
            have k2 := K2.cell 0
            have f2 := K2.frozen 0
            have HKF := Lib.hid (put1 (x := .slice none 0 0) K2 B (by omega))
            clear K1 K2 B
            go_wp2_with fail
            rw [HV.out]
            exact bodyPost_ret (v := .tuple #[.agg #[.slice none 0 0], .int .i64 0, .int .i64 181]) (results_pools3 Try.results32 _ _ _ _ _ _ rfl HKF.out.1 Try.underlying24 rfl (by kernel_rfl)) rfl (GivesP3.none_ HKF.out.2)
          · have hq : ((s : Int) == (x : Int)) = false := by simp; omega
            by_cases hn : n = 4
            · have HV : Hid (splitV l (k : Int) s = ([], 0, 6)) := Lib.hid (by unfold splitV; rw [if_neg (by rw [hp]; simp), if_neg (by omega), if_neg hno, if_neg (by rw [Int.toNat_natCast, hgx]; exact he), if_pos (by omega)])
              have hn4 : ((n : Int) == 4) = true := by simp; omega
              clear hp hr hR hs hi0 hz0 hz1 hz2 rs h0 h8 hw he hno hn
              go_enter Try.func32, Try.ntmps32
              go_wp2_with fail
              refine (HPl.out _).mono ?_
              rintro e w3 ⟨rfl, h9⟩
              replace K1 := K1.below h9 K1.lt
              replace K2 := K2.below h9 K2.lt
              replace B := B.trans (h9.mono B.size)
              clear h9 k1
              go_wp2_with fail
              refine (HRt.out _).mono ?_
              rintro e w4 ⟨rfl, rfl⟩
              have k1 : w3.cell? ⟨w.heap.size, 0, none⟩ = some (.slice (some ad) n c) := K1.cell 0
              have d1 : w3.cell? (ad.add k) = some (.int .u32 (x : Int)) := (B.cell (p := ad.add k) (by rw [block_of_add]; exact had)).trans hx
              go_wp2_with fail
              refine (HWi.out _).mono ?_
              rintro e w5 ⟨rfl, h9⟩
              replace K1 := K1.below h9 K1.lt
              replace K2 := K2.below h9 K2.lt
              replace B := B.trans (h9.mono B.size)
              clear h9 k1 d1
              have k1 : w5.cell? ⟨w.heap.size, 0, none⟩ = some (.slice (some ad) n c) := K1.cell 0
              have d1 : w5.cell? (ad.add k) = some (.int .u32 (x : Int)) := (B.cell (p := ad.add k) (by rw [block_of_add]; exact had)).trans hx
              have k2 := K2.cell 0
              have f2 := K2.frozen 0
              have HKF := Lib.hid (put1 (x := .slice none 0 0) K2 B (by omega))
              clear K1 K2 B
              go_wp2_with fail
              rw [HV.out]
              exact bodyPost_ret (v := .tuple #[.agg #[.slice none 0 0], .int .i64 0, .int .i64 6]) (results_pools3 Try.results32 _ _ _ _ _ _ rfl HKF.out.1 Try.underlying24 rfl (by kernel_rfl)) rfl (GivesP3.none_ HKF.out.2)
            · have HV : Hid (splitV l (k : Int) s = (l.set k (x - s) ++ [s], (n : Int), 0)) := Lib.hid (by unfold splitV; rw [if_neg (by rw [hp]; simp), if_neg (by omega), if_neg hno, if_neg (by rw [Int.toNat_natCast, hgx]; exact he), if_neg (by omega), Int.toNat_natCast, hgx, hl])
              have hn4 : ((n : Int) == 4) = false := by simp; omega
              have hwr : IntKind.u32.wrap ((x : Int) - (s : Int)) = ((x - s : Nat) : Int) := by rw [IntKind.wrap_u32']; omega
              have HCp := Lib.hid (fun (u : World) (h : Below w.heap.size w u) => rcopyP_any (some ad) n c l u ((hR.below h).more h.size) (by omega))
              have HL := Lib.hid hl
              have HXL := Lib.hid hxl
              have HKN : Hid (k < n ∧ n ≤ 4) := Lib.hid (by omega)
              clear hp hr hR hs rs h0 h8 hw he hno hn
              go_enter Try.func32, Try.ntmps32
              go_wp2_with fail
              refine (HPl.out _).mono ?_
              rintro e w3 ⟨rfl, h9⟩
              replace K1 := K1.below h9 K1.lt
              replace K2 := K2.below h9 K2.lt
              replace B := B.trans (h9.mono B.size)
              clear h9 k1
              go_wp2_with fail
              refine (HRt.out _).mono ?_
              rintro e w4 ⟨rfl, rfl⟩
              have k1 : w3.cell? ⟨w.heap.size, 0, none⟩ = some (.slice (some ad) n c) := K1.cell 0
              have d1 : w3.cell? (ad.add k) = some (.int .u32 (x : Int)) := (B.cell (p := ad.add k) (by rw [block_of_add]; exact had)).trans hx
              go_wp2_with fail
              refine (HWi.out _).mono ?_
              rintro e w5 ⟨rfl, h9⟩
              replace K1 := K1.below h9 K1.lt
              replace K2 := K2.below h9 K2.lt
              replace B := B.trans (h9.mono B.size)
              clear h9 k1 d1
              have k1 : w5.cell? ⟨w.heap.size, 0, none⟩ = some (.slice (some ad) n c) := K1.cell 0
              have d1 : w5.cell? (ad.add k) = some (.int .u32 (x : Int)) := (B.cell (p := ad.add k) (by rw [block_of_add]; exact had)).trans hx
              go_wp2_with fail
              refine (HCp.out _ B).mono ?_
              rintro e w6 ⟨A6, c6, rfl, own6, h9⟩
              rw [HL.out] at own6 ⊢
              obtain ⟨g, cap, hA, hg0, _⟩ := own6.form (by have := HKN.out.1; omega)
              have hA := Value.slice.inj hA
              obtain ⟨rfl, -, rfl⟩ := hA
              have K16 := K1.below h9 K1.lt
              have K26 := K2.below h9 K2.lt
              have B6 := B.trans (h9.mono B.size)
              have hlo : w.heap.size + 1 < w5.heap.size := K2.lt
              obtain ⟨p, hp0⟩ : ∃ p, p = (⟨g, 0, none⟩ : Addr) := ⟨_, rfl⟩
              have hpk : p.add k = ⟨g, k, none⟩ := by rw [hp0]; unfold Addr.add; by_cases hk0 : k = 0 <;> simp [hk0]
              have hgne : ∀ i j : Nat, i ≤ 1 → (⟨w.heap.size + i, j, none⟩ : Addr) ≠ p.add k := fun i j hi e => by rw [hpk] at e; injection e with e1; omega
              have own7 := own_set own6 (g := w.heap.size) (by omega) 0 (.slice (some p) n c6)
              have e1 : (w6.setCell ⟨w.heap.size, 0, none⟩ (.slice (some p) n c6)).cell? (p.add k) = some (.int .u32 (x : Int)) := by
                rw [hpk, own7.cellAt k (by have := HKN.out.1; omega)]
                unfold us
                rw [List.getElem?_map, HXL.out]
                rfl
              have e2 : (w6.setCell ⟨w.heap.size, 0, none⟩ (.slice (some p) n c6)).frozen? (p.add k) = false := by rw [hpk]; exact own7.frozenAt k
              obtain ⟨KS, BS⟩ := put1 (x := .slice (some p) n c6) K16 B6 (by omega)
              have hst := own7.stored k (.int .u32 ((x - s : Nat) : Int))
              rw [us_set, ← hpk] at hst
              obtain ⟨own8, grow8⟩ := hst
              have KS2 := KS.grown grow8 (by simp; omega)
              have B8 := BS.grown grow8 BS.size (fun g' hg' => by have := Option.some.inj hg'; omega)
              have K28 := (K26.far (p := ⟨w.heap.size, 0, none⟩) (by simp) (.slice (some p) n c6)).grown grow8 (by simp; omega)
              have e3 : ((w6.setCell ⟨w.heap.size, 0, none⟩ (.slice (some p) n c6)).setCell (p.add k) (.int .u32 ((x - s : Nat) : Int))).cell? ⟨w.heap.size, 0, none⟩ = some (.slice (some p) n c6) := KS2.cell 0
              have f1 := K16.frozen 0
              have o1 : w6.cell? ⟨w.heap.size, 0, none⟩ = some (.slice (some ad) n c) := K16.cell 0
              rw [← hp0] at own8 ⊢
              have HP0 := Lib.hid hp0
              have HPB : Hid (w5.heap.size ≤ p.block) := Lib.hid ((own8.lt _ rfl).1)
              have HO8 := Lib.hid own8
              have HS8 := Lib.hid (And.intro KS2 (And.intro K28 B8))
              have HLO := Lib.hid hlo
              have HLO2 := Lib.hid hlo
              clear own8 grow8 KS KS2 K28 B8 BS K16 K26 B6 hlo
              clear h9 k1 d1 K1 K2 B own6 own7 hp0 hpk hgne hg0 hl hgx r1 r4 hxl hx had
              go_wp2_with (
                at_builtin
                refine wpList_append_any _ rfl (.tmp 60) (.tmp 62) 22 rfl w5.heap.size 29 i0 (.int .u32 0) 1 4 Try.underlying22 hi0 hz0 hz1 hz2 rfl (by decide) (.slice (some p) n c6) n (us (l.set k (x - s))) rfl (HO8.out.alloc _) _ (some ⟨w6.heap.size, 0, none⟩) 1 1 (us [s]) rfl (reads_u1' _ 29 s (by simp [World.setCell])) (us_ones _) (by have := HKN.out.2; simp only [maxLen]; omega) (by have := HKN.out.2; omega) (by have h1 := HO8.out.lt _ rfl; exact Nat.le_trans h1.1 (Nat.le_trans (Nat.le_of_lt h1.2) (by unfold World.alloc; simp))) ?_
                intro v9 w9 own9 grow9 _
                rw [← us_append] at own9
                obtain ⟨A9, c9, rfl, hc9, r9⟩ := own_reads own9
                have hpb := HPB.out
                have hlo := HLO.out
                have K9 := (HS8.out.1.alloc (.cells #[.int .u32 (s : Int)] 29)).grown grow9 (fun e => by have e2 : w.heap.size = p.block := Option.some.inj e; omega)
                have K29 := (HS8.out.2.1.alloc (.cells #[.int .u32 (s : Int)] 29)).grown grow9 (fun e => by have e2 : w.heap.size + 1 = p.block := Option.some.inj e; omega)
                have B9' := HS8.out.2.2.alloc HS8.out.2.2.size (.cells #[.int .u32 (s : Int)] 29)
                have B9 : Below w.heap.size w w9 := B9'.grown grow9 B9'.size (fun g' hg' => by have e2 : p.block = g' := Option.some.inj hg'; omega)
                have HT := Lib.hid (And.intro (own_set own9 (g := w.heap.size) (by omega) 0 (.slice A9 (n + 1) c9)) (And.intro (put1 (x := .slice A9 (n + 1) c9) K9 B9 (by omega)) (K29.far (p := ⟨w.heap.size, 0, none⟩) (by simp) (.slice A9 (n + 1) c9))))
                have t0 := K9.cell 0
                have t1 := K9.frozen 0
                clear own9 grow9 hc9 r9 K9 K29 B9' B9 hpb hlo)
              go_upto_region 14 with fail
              obtain ⟨hO, ⟨hK, hB⟩, hK2⟩ := HT.out
              have n8 := HKN.out.2
              clear HT t0 t1 HO8 HS8 HLO HPB HP0
              generalize w9.setCell ⟨w.heap.size, 0, none⟩ (.slice A9 (n + 1) c9) = TW at *
              refine wp_region_held_drew (S := fun u => u.cell? ⟨w.heap.size, 0, none⟩ = some (.slice A9 (n + 1) c9)) (by kernel_rfl) (hK.cell 0) (fun hS => ?_)
              have OV := hO.drew
              have KV : Blk TW.drew w.heap.size 24 #[.slice A9 (n + 1) c9] := hK
              have K2V : Blk TW.drew (w.heap.size + 1) 24 #[.slice none 0 0] := hK2
              have BV := hB.drew
              clear hO hK hB hK2
              generalize TW.drew = V at *
              have tw : IntKind.i64.wrap (n : Int) = (n : Int) := by rw [IntKind.wrap_i64]; omega
              refine wpAnyH_take (i := 0) (v := .agg #[.slice A9 (n + 1) c9]) rfl (by kernel_rfl) (by kernel_rfl) (by kernel_rfl) (fun _ _ _ h => h) (Or.inl ⟨by kernel_rfl, fun u hSw => (by have q0 := hSw; go_simp)⟩) hS ?_
              try simp only [Act.put]
              refine wpAnyH_take (i := 1) (v := .pointer (some ⟨w.heap.size, 0, none⟩)) rfl (by kernel_rfl) (by kernel_rfl) (by kernel_rfl) (fun _ _ _ h => h) (Or.inl ⟨by kernel_rfl, fun u hSw => (by go_simp)⟩) hS ?_
              try simp only [Act.put]
              refine wpAnyH_take (i := 2) (v := .slice A9 (n + 1) c9) rfl (by kernel_rfl) (by kernel_rfl) (by kernel_rfl) (fun _ _ _ h => h) (Or.inl ⟨by kernel_rfl, fun u hSw => (by have q0 := hSw; go_simp)⟩) hS ?_
              try simp only [Act.put]
              refine wpAnyH_take (i := 3) (v := .int .i64 ((n : Int) + 1)) rfl (by kernel_rfl) (by kernel_rfl) (by kernel_rfl) (fun _ _ _ h => h) (Or.inl ⟨by kernel_rfl, fun u hSw => (by go_simp)⟩) hS ?_
              try simp only [Act.put]
              refine wpAnyH_take (i := 4) (v := .int .i64 (n : Int)) rfl (by kernel_rfl) (by kernel_rfl) (by kernel_rfl) (fun _ _ _ h => h) (Or.inl ⟨by kernel_rfl, fun u hSw => (by go_simp)⟩) hS ?_
              try simp only [Act.put]
              have d0 := K2V.cell 0
              have f0 := K2V.frozen 0
              have HVV := Lib.hid (And.intro (put1 (x := .slice A9 (n + 1) c9) K2V BV (by omega)) (own_set OV (g := w.heap.size + 1) (by have := HLO2.out; omega) 0 (.slice A9 (n + 1) c9)))
              have hS2 : (V.setCell ⟨w.heap.size + 1, 0, none⟩ (.slice A9 (n + 1) c9)).cell? ⟨w.heap.size, 0, none⟩ = some (.slice A9 (n + 1) c9) := (KV.far (p := ⟨w.heap.size + 1, 0, none⟩) (by simp) (.slice A9 (n + 1) c9)).cell 0
              refine wpAnyH_ready (rs := [5]) (by kernel_rfl) (by simp) ?_
              refine AllReadyH.cons rfl (fun K hK => ?_) AllReadyH.nil
              go_simp
              refine hK.out _ _ hS2 (fun hS => ?_)
              clear hK K d0 f0 K2V KV BV OV hS2
              try simp only [Act.put]
              refine wpAnyH_take (i := 6) (v := .int .i64 (n : Int)) rfl (by kernel_rfl) (by kernel_rfl) (by kernel_rfl) (fun _ _ _ h => h) (Or.inl ⟨by kernel_rfl, fun u hSw => (by go_simp)⟩) hS ?_
              try simp only [Act.put]
              refine wpAnyH_take (i := 7) (v := .int .i64 0) rfl (by kernel_rfl) (by kernel_rfl) (by kernel_rfl) (fun _ _ _ h => h) (Or.inl ⟨by kernel_rfl, fun u hSw => (by go_simp)⟩) hS ?_
              try simp only [Act.put]
              refine wpAnyH_done (by kernel_rfl) ?_ _
              try simp only [Act.put]
              go_simp
              go_wp2_with fail
              rw [HV.out]
              exact bodyPost_ret (v := .tuple #[.agg #[.slice A9 (n + 1) c9], .int .i64 (n : Int), .int .i64 0]) (results_pools3 Try.results32 _ _ _ _ _ _ rfl HVV.out.1.1 Try.underlying24 rfl (by kernel_rfl)) rfl ⟨A9, c9, by simp [HL.out], by simp only [List.length_append, List.length_set, HL.out, List.length_singleton]; exact own_down HVV.out.2 (by have := HLO2.out; omega), HVV.out.1.2⟩
    · rw [decide_eq_false (show ¬ (s : Int) < 256 by omega)] at HRt
      have HV : Hid (splitV l (k : Int) s = ([], 0, 140)) := Lib.hid (by unfold splitV; rw [if_neg (by rw [hp]; simp), if_pos h8])
      clear hp hr hR hs hi0 hz0 hz1 hz2 rs h8
      go_enter Try.func32, Try.ntmps32
      go_wp2_with fail
      refine (HPl.out _).mono ?_
      rintro e w3 ⟨rfl, h9⟩
      replace K1 := K1.below h9 K1.lt
      replace K2 := K2.below h9 K2.lt
      replace B := B.trans (h9.mono B.size)
      clear h9 k1
      go_wp2_with fail
      refine (HRt.out _).mono ?_
      rintro e w4 ⟨rfl, rfl⟩
      have k1 : w3.cell? ⟨w.heap.size, 0, none⟩ = some (.slice (some ad) n c) := K1.cell 0
      have d1 : w3.cell? (ad.add k) = some (.int .u32 (x : Int)) := (B.cell (p := ad.add k) (by rw [block_of_add]; exact had)).trans hx
      have k2 := K2.cell 0
      have f2 := K2.frozen 0
      have HKF := Lib.hid (put1 (x := .slice none 0 0) K2 B (by omega))
      clear K1 K2 B
      go_wp2_with fail
      rw [HV.out]
      exact bodyPost_ret (v := .tuple #[.agg #[.slice none 0 0], .int .i64 0, .int .i64 140]) (results_pools3 Try.results32 _ _ _ _ _ _ rfl HKF.out.1 Try.underlying24 rfl (by kernel_rfl)) rfl (GivesP3.none_ HKF.out.2)

end Go.Proofs.Ytnckfgnhlnichaa
