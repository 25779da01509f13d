/-
  Several texts as one.
-/
import Derived.Test.YtngbamoffjlodaaZVd
import Derived.Test.YtngbamoffjlodaaZFd
import Derived.Deep.DeepCutAuto
import Derived.Deep.QuietTactic
/-
  The document's order: has; who may be asked. No statement is proved here.
-/
namespace Go.Proofs.Ytngbamoffjlodaa
open Go.RowKit

theorem has_step {l : List Int} {k : Nat} {x n : Int} (hx : l[k]? = some x) : decide (n ∈ l.take (k + 1)) = (decide (n ∈ l.take k) || x == n) := by
  rw [List.take_add_one, hx]
  by_cases h : x = n
  · subst h; simp
  · have h2 : ¬ n = x := fun e => h e.symm
    simp [h, h2]
theorem has_at {l : List Int} {k : Nat} {x : Int} (hx : l[k]? = some x) : decide (x ∈ l) = true := by
  simpa using List.mem_of_getElem? hx

set_option maxRecDepth 100000 in
set_option maxHeartbeats 800000 in
theorem rhas_any (A : Option Addr) (n c : Nat) (l : List Int) (i : Int) (w : World) (hR : IR w A n l) : Calls Try.prog 46 #[.slice A n c, .int .i64 i] w fun e w' => e = .returned (.bool (decide (i ∈ l))) ∧ w = w' := by
  have HR := Lib.hid hR
  have HN : Hid (n ≤ 1000) := Lib.hid hR.small
  have HL := Lib.hid hR.len
  clear hR
  go_enter Try.func46, Try.ntmps46
  go_wp2_with fail
  go_loop [9] (fun iv => ∃ k : Nat, k ≤ n ∧ iv = .int .i64 (k : Int) ∧ Hid (decide (i ∈ l.take k) = false)) (fun iv => n - (intOf iv).toNat)
  case atStart => exact ⟨0, by omega, rfl, Lib.hid (by simp)⟩
  case round =>
    obtain ⟨k, hk, rfl, HA⟩ := hrel
    by_cases hlt : k < n
    · obtain ⟨x, hx⟩ := elem_at (l := l) (k := k) (by rw [HL.out]; exact hlt)
      obtain ⟨ad, rfl, hb1, d0⟩ := HR.out.at_ hx
      have HX := Lib.hid hx
      have i1 : (0 : Int) ≤ (k : Int) := by omega
      have i2 : (k : Int) < (n : Int) := by omega
      have hn := HN.out
      clear hx hb1
      by_cases he : x = i
      · have HV : Hid (decide (i ∈ l) = true) := Lib.hid (by rw [← he]; exact has_at HX.out)
        have c1 : (x == i) = true := by simp [he]
        clear he
        go_wp2
        go_ret
        exact ⟨retB HV.out.symm, rfl⟩
      · have c1 : (x == i) = false := by simp [he]
        have HA2 : Hid (decide (i ∈ l.take (k + 1)) = false) := Lib.hid (by rw [has_step HX.out, HA.out]; simpa using he)
        clear he
        go_wp2
        go_round
        case rel => exact ⟨k + 1, by omega, by go_num, HA2⟩
        case measure => simp [intOf]; omega
    · obtain rfl : k = n := by omega
      have HV : Hid (decide (i ∈ l) = false) := Lib.hid (by have h := HA.out; rwa [List.take_of_length_le (by rw [HL.out]; omega)] at h)
      go_wp2
      go_ret
      exact ⟨retB HV.out.symm, rfl⟩

end Go.Proofs.Ytngbamoffjlodaa
/-
  The document's order: which entities may be asked, who stands ahead. No statement is proved here.
-/
namespace Go.Proofs.Ytngbamoffjlodaa
open Go.RowKit

/-- an entity's cells -/
def agE (A : Option Addr) (n c h l x o : Nat) (f : Bool) : Array Value := #[.slice A n c, .int .u64 (h : Int), .int .u64 (l : Int), .int .u64 (x : Int), .int .u64 (o : Int), .bool f]
/-- may it be asked? -/
def askB (n h x : Nat) : Bool := decide (0 < n) && rightB h x
/-- who stands ahead: of what may be asked -/
def aheadB (fa fb : Bool) (c : Int) (p q : Nat) (a b : Int) : Bool := if fa != fb then fa else if c ≠ 0 then decide (c < 0) else if p ≠ q then decide (p < q) else decide (a < b)

set_option maxRecDepth 100000 in
set_option maxHeartbeats 800000 in
theorem eright_any (A : Option Addr) (n c h l x o : Nat) (f : Bool) (w : World) : Calls Try.prog 49 #[.agg (agE A n c h l x o f)] w (Said (.bool (askB n h x)) w) := by
  have HC := Lib.hid (fun u => rright_any h l x u)
  unfold fr at HC
  obtain ⟨K0, GB⟩ := box1 w 47 (agE A n c h l x o f)
  unfold agE at K0 GB ⊢
  have z0 := K0.cell 0
  have z1 := K0.cell 1
  have z2 := K0.cell 2
  have z3 := K0.cell 3
  have HB := Lib.hid GB
  clear K0 GB
  by_cases hn : n = 0
  · subst hn
    have HV : Hid (askB 0 h x = false) := Lib.hid (by unfold askB; simp)
    go_enter Try.func49, Try.ntmps49
    go_wp2_with fail
    go_ret
    exact ⟨retB HV.out.symm, HB.out⟩
  · have HV : Hid (askB n h x = rightB h x) := Lib.hid (by unfold askB; simp; omega)
    have c1 : decide ((0 : Int) < (n : Int)) = true := by simp; omega
    have c2 : (0 : Int) < (n : Int) := by omega
    go_enter Try.func49, Try.ntmps49
    go_wp2_with fail
    refine (HC.out _).mono ?_
    rintro e w2 ⟨rfl, h2⟩
    go_wp2
    go_ret
    exact ⟨retB HV.out.symm, HB.out.trans (h2.mono HB.out.size)⟩

end Go.Proofs.Ytngbamoffjlodaa
/-
  The document's Ahead. No statement is proved here.
-/
namespace Go.Proofs.Ytngbamoffjlodaa
open Go.RowKit

theorem behind {B : Nat} {a w : World} (h : Below B a w) (n : Nat) : Below B a (w.drewN n) := below_drewN h n

set_option maxRecDepth 100000 in
set_option maxHeartbeats 4000000 in
theorem eahead_any (A : Option Addr) (n c h l x o : Nat) (f : Bool) (is : List Int) (A' : Option Addr) (n' c' h' l' x' o' : Nat) (f' : Bool) (is' : List Int) (w : World) (hR : IR w A n is) (hR' : IR w A' n' is')
    (hh : h < 2 ^ 64) (hl : l < 2 ^ 64) (hx : x < 2 ^ 64) (hh' : h' < 2 ^ 64) (hl' : l' < 2 ^ 64) (hx' : x' < 2 ^ 64) :
    Calls Try.prog 19 #[.agg (agE A n c h l x o f), .agg (agE A' n' c' h' l' x' o' f')] w
      (Said (.bool (askB n h x && askB n' h' x' && aheadB f f' (cmpI ((h * 2 ^ 64 + l) * x') ((h' * 2 ^ 64 + l') * x)) o o' (is.getD 0 0) (is'.getD 0 0))) w) := by
  have HC := Lib.hid (fun u => rcompare_any h l x h' l' x' u hh hl hx hh' hl' hx')
  have HP := Lib.hid (fun u => eright_any A n c h l x o f u)
  have HQ := Lib.hid (fun u => eright_any A' n' c' h' l' x' o' f' u)
  unfold fr at HC
  generalize cmpI ((h * 2 ^ 64 + l) * x') ((h' * 2 ^ 64 + l') * x) = cv at HC ⊢
  clear hh hl hx hh' hl' hx'
  obtain ⟨K0, K1, GB⟩ := blks2 w 47 47 (agE A n c h l x o f) (agE A' n' c' h' l' x' o' f')
  have HR := Lib.hid hR
  have HR' := Lib.hid hR'
  clear hR hR'
  cases hp : askB n h x with
  | false =>
    unfold agE at *
    rw [hp] at HP
    clear hp
    have z0 := K0.cell 0
    have z1 := K0.cell 1
    have z2 := K0.cell 2
    have z3 := K0.cell 3
    have z4 := K0.cell 4
    have z5 := K0.cell 5
    have HB := Lib.hid GB
    clear K0 K1 GB
    go_enter Try.func19, Try.ntmps19
    go_wp2_with fail
    refine (HP.out _).mono ?_
    rintro e w2 ⟨rfl, h2⟩
    go_wp2
    go_ret
    exact ⟨rfl, HB.out.trans (h2.mono HB.out.size)⟩
  | true =>
    cases hq : askB n' h' x' with
    | false =>
      unfold agE at *
      rw [hp] at HP
      rw [hq] at HQ
      clear hp hq
      have z0 := K0.cell 0
      have z1 := K0.cell 1
      have z2 := K0.cell 2
      have z3 := K0.cell 3
      have z4 := K0.cell 4
      have z5 := K0.cell 5
      have HB := Lib.hid GB
      have HK := Lib.hid K1
      clear K0 K1 GB
      go_enter Try.func19, Try.ntmps19
      go_wp2_with fail
      refine (HP.out _).mono ?_
      rintro e w2 ⟨rfl, h2⟩
      have K1 := HK.out.below h2 HK.out.lt
      have y0 := K1.cell 0
      have y1 := K1.cell 1
      have y2 := K1.cell 2
      have y3 := K1.cell 3
      have y4 := K1.cell 4
      have y5 := K1.cell 5
      have HB2 := Lib.hid (HB.out.trans (h2.mono HB.out.size))
      clear h2 K1 z0 z1 z2 z3 z4 z5
      go_wp2_with fail
      refine (HQ.out _).mono ?_
      rintro e w3 ⟨rfl, h3⟩
      go_wp2
      go_ret
      exact ⟨rfl, HB2.out.trans (h3.mono HB2.out.size)⟩
    | true =>
      have g1 : 0 < n := by unfold askB at hp; simp at hp; exact hp.1
      have g2 : 0 < n' := by unfold askB at hq; simp at hq; exact hq.1
      obtain ⟨a, ha⟩ := elem_at (l := is) (k := 0) (by rw [HR.out.len]; exact g1)
      obtain ⟨a', ha'⟩ := elem_at (l := is') (k := 0) (by rw [HR'.out.len]; exact g2)
      rw [show is.getD 0 0 = a by rw [List.getD_eq_getElem?_getD, ha]; rfl, show is'.getD 0 0 = a' by rw [List.getD_eq_getElem?_getD, ha']; rfl]
      have HA := Lib.hid ha
      have HA' := Lib.hid ha'
      have i1 : ¬ n = 0 := by omega
      have i2 : ¬ n' = 0 := by omega
      have i3 : (0 : Int) < (n : Int) := by omega
      have i4 : (0 : Int) < (n' : Int) := by omega
      have i5 : 0 < n := g1
      have i6 : 0 < n' := g2
      unfold agE at *
      rw [hp] at HP
      rw [hq] at HQ
      clear hp hq g1 g2 ha ha'
      have z0 := K0.cell 0
      have z1 := K0.cell 1
      have z2 := K0.cell 2
      have z3 := K0.cell 3
      have z4 := K0.cell 4
      have z5 := K0.cell 5
      have HB := Lib.hid GB
      have HK := Lib.hid K0
      have HK' := Lib.hid K1
      clear K0 K1 GB
      simp only [Bool.true_and]
      go_enter Try.func19, Try.ntmps19
      go_wp2_with fail
      refine (HP.out _).mono ?_
      rintro e w2 ⟨rfl, h2⟩
      have K0 := HK.out.below h2 HK.out.lt
      have K1 := HK'.out.below h2 HK'.out.lt
      have y0 := K1.cell 0
      have y1 := K1.cell 1
      have y2 := K1.cell 2
      have y3 := K1.cell 3
      have y4 := K1.cell 4
      have y5 := K1.cell 5
      replace HB := Lib.hid (HB.out.trans (h2.mono HB.out.size))
      replace HK := Lib.hid K0
      replace HK' := Lib.hid K1
      clear h2 K0 K1 z0 z1 z2 z3 z4 z5
      go_wp2_with fail
      refine (HQ.out _).mono ?_
      rintro e w3 ⟨rfl, h3⟩
      have K0 := HK.out.below h3 HK.out.lt
      have K1 := HK'.out.below h3 HK'.out.lt
      replace HB := Lib.hid (HB.out.trans (h3.mono HB.out.size))
      replace HK := Lib.hid K0
      replace HK' := Lib.hid K1
      clear h3 y0 y1 y2 y3 y4 y5
      have z1 := K0.cell 1
      have z2 := K0.cell 2
      have z3 := K0.cell 3
      have y1 := K1.cell 1
      have y2 := K1.cell 2
      have y3 := K1.cell 3
      clear K0 K1
      go_wp2_with fail
      refine (HC.out _).mono ?_
      rintro e w4 ⟨rfl, h4⟩
      have K0 := HK.out.below h4 HK.out.lt
      have K1 := HK'.out.below h4 HK'.out.lt
      replace HB := Lib.hid (HB.out.trans (h4.mono HB.out.size))
      obtain ⟨ad, rfl, _, q0⟩ := (HR.out.below HB.out).at_ HA.out
      obtain ⟨ad', rfl, _, q1⟩ := (HR'.out.below HB.out).at_ HA'.out
      rw [Addr.add_zero'] at q0 q1
      clear h4 z1 z2 z3 y1 y2 y3 HK HK' HR HR' HA HA' HP HQ HC
      have z0 := K0.cell 0
      have z4 := K0.cell 4
      have z5 := K0.cell 5
      have y0 := K1.cell 0
      have y4 := K1.cell 4
      have y5 := K1.cell 5
      clear K0 K1
      cases f <;> cases f'
      · by_cases hc : cv = 0
        · subst hc
          by_cases ho : o = o'
          · subst ho
            have HV : Hid (aheadB false false 0 o o a a' = decide (a < a')) := Lib.hid (by unfold aheadB; simp)
            go_wp2_with fail
            go_quiet (fail)
            go_wp2_with fail
            go_ret
            exact ⟨retB HV.out.symm, (behind HB.out _)⟩
          · have c2 : ((o : Int) == (o' : Int)) = false := by simp; omega
            have HV : Hid (aheadB false false 0 o o' a a' = decide (o < o')) := Lib.hid (by unfold aheadB; simp [ho])
            go_wp2_with fail
            go_ret
            exact ⟨retB HV.out.symm, HB.out⟩
        · have c2 : (cv == (0 : Int)) = false := by simp [hc]
          have HV : Hid (aheadB false false cv o o' a a' = decide (cv < 0)) := Lib.hid (by unfold aheadB; simp [hc])
          clear hc
          go_wp2_with fail
          go_ret
          exact ⟨retB HV.out.symm, HB.out⟩
      · have HV : Hid (aheadB false true cv o o' a a' = false) := Lib.hid (by unfold aheadB; simp)
        go_wp2_with fail
        go_ret
        exact ⟨retB HV.out.symm, HB.out⟩
      · have HV : Hid (aheadB true false cv o o' a a' = true) := Lib.hid (by unfold aheadB; simp)
        go_wp2_with fail
        go_ret
        exact ⟨retB HV.out.symm, HB.out⟩
      · by_cases hc : cv = 0
        · subst hc
          by_cases ho : o = o'
          · subst ho
            have HV : Hid (aheadB true true 0 o o a a' = decide (a < a')) := Lib.hid (by unfold aheadB; simp)
            go_wp2_with fail
            go_quiet (fail)
            go_wp2_with fail
            go_ret
            exact ⟨retB HV.out.symm, (behind HB.out _)⟩
          · have c2 : ((o : Int) == (o' : Int)) = false := by simp; omega
            have HV : Hid (aheadB true true 0 o o' a a' = decide (o < o')) := Lib.hid (by unfold aheadB; simp [ho])
            go_wp2_with fail
            go_ret
            exact ⟨retB HV.out.symm, HB.out⟩
        · have c2 : (cv == (0 : Int)) = false := by simp [hc]
          have HV : Hid (aheadB true true cv o o' a a' = decide (cv < 0)) := Lib.hid (by unfold aheadB; simp [hc])
          clear hc
          go_wp2_with fail
          go_ret
          exact ⟨retB HV.out.symm, HB.out⟩

end Go.Proofs.Ytngbamoffjlodaa
/-
  The document's Place: rows of entities. No statement is proved here.
-/
namespace Go.Proofs.Ytngbamoffjlodaa
open Go.RowKit

/-- an entity: its members' slice and what they are, its time, its order number, whether it is fresh -/
abbrev En := (Option Addr × Nat × Nat × List Int) × (Nat × Nat × Nat) × Nat × Bool
def ev (e : En) : List Value := [.slice e.1.1 e.1.2.1 e.1.2.2.1, .int .u64 (e.2.1.1 : Int), .int .u64 (e.2.1.2.1 : Int), .int .u64 (e.2.1.2.2 : Int), .int .u64 (e.2.2.1 : Int), .bool e.2.2.2]
theorem length_ev (e : En) : (ev e).length = 6 := rfl
/-- a row of entities that lies somewhere -/
structure ER (w : World) (A : Option Addr) (n : Nat) (l : List En) : Prop where
  row : Reads w w.heap.size 6 A n (flat ev l)
  small : n ≤ 1000
  each : ∀ (k : Nat) (e : En), l[k]? = some e → IR w e.1.1 e.1.2.1 e.1.2.2.2
theorem ER.len {w : World} {A : Option Addr} {n : Nat} {l : List En} (h : ER w A n l) : l.length = n := by
  have h1 := h.row.1
  rw [length_flat ev length_ev] at h1
  omega
theorem ER.below {w w' : World} {A : Option Addr} {n : Nat} {l : List En} (h : ER w A n l) (hb : Below w.heap.size w w') : ER w' A n l := ⟨(h.row.below hb).more hb.size, h.small, fun k e he => (h.each k e he).below hb⟩
theorem ER.at_ {w : World} {A : Option Addr} {n : Nat} {l : List En} (h : ER w A n l) {k : Nat} {e : En} (hx : l[k]? = some e) :
    ∃ ad, A = some ad ∧ ad.block < w.heap.size ∧ ∀ j u, (ev e)[j]? = some u → w.cell? (ad.add (k * 6 + j)) = some u := h.row.elem ev length_ev hx (by omega)
end Go.Proofs.Ytngbamoffjlodaa
/-
  The document's SameOne, of two entities that are one. No statement is proved here.
-/
namespace Go.Proofs.Ytngbamoffjlodaa
open Go.RowKit

set_option maxRecDepth 100000 in
set_option maxHeartbeats 4000000 in
theorem esame_one (A : Option Addr) (n c : Nat) (A' : Option Addr) (c' h l x o : Nat) (f : Bool) (is : List Int) (w : World) (hR : IR w A n is) (hR' : IR w A' n is) :
    Calls Try.prog 22 #[.agg (agE A n c h l x o f), .agg (agE A' n c' h l x o f)] w (Said (.bool true) w) := by
  obtain ⟨K0, K1, GB⟩ := blks2 w 47 47 (agE A n c h l x o f) (agE A' n c' h l x o f)
  have HR := Lib.hid hR
  have HR' := Lib.hid hR'
  have HN : Hid (n ≤ 1000) := Lib.hid hR.small
  have HL := Lib.hid hR.len
  have HB := Lib.hid GB
  unfold agE at *
  have HK := Lib.hid K0
  have HK' := Lib.hid K1
  have z0 := K0.cell 0
  have z1 := K0.cell 1
  have z2 := K0.cell 2
  have z3 := K0.cell 3
  have z4 := K0.cell 4
  have z5 := K0.cell 5
  have y0 := K1.cell 0
  have y1 := K1.cell 1
  have y2 := K1.cell 2
  have y3 := K1.cell 3
  have y4 := K1.cell 4
  have y5 := K1.cell 5
  clear hR hR' K0 K1 GB
  go_enter Try.func22, Try.ntmps22
  go_wp2_with fail
  clear z0 z1 z2 z3 z4 z5 y0 y1 y2 y3 y4 y5
  generalize hV : (w.alloc _).alloc _ = V at HB HK HK' ⊢
  clear hV
  go_loopw [37] (fun iv wr => ∃ k : Nat, k ≤ n ∧ iv = .int .i64 (k : Int) ∧ Below V.heap.size V wr) (fun iv _ => n - (intOf iv).toNat)
  case atStart => exact ⟨0, by omega, rfl, Below.refl _ _⟩
  case round =>
    obtain ⟨k, hk, rfl, hB⟩ := hrel
    by_cases hlt : k < n
    · obtain ⟨i, hx⟩ := elem_at (l := is) (k := k) (by rw [HL.out]; exact hlt)
      have hw := HB.out.trans (hB.mono HB.out.size)
      obtain ⟨ad, rfl, _, d0⟩ := (HR.out.below hw).at_ hx
      obtain ⟨ad', rfl, _, d1⟩ := (HR'.out.below hw).at_ hx
      have K0 := HK.out.below hB HK.out.lt
      have K1 := HK'.out.below hB HK'.out.lt
      have z0 := K0.cell 0
      have y0 := K1.cell 0
      have HW := Lib.hid hB
      have i1 : (0 : Int) ≤ (k : Int) := by omega
      have i2 : (k : Int) < (n : Int) := by omega
      have hn := HN.out
      clear hx K0 K1 hw
      go_wp2_with fail
      go_quiet (fail)
      go_wp2_with fail
      go_roundw
      case rel => exact ⟨k + 1, by omega, by go_num, below_drewN HW.out _⟩
      case measure => simp [intOf]; omega
    · obtain rfl : k = n := by omega
      go_wp2
      go_ret
      exact ⟨rfl, HB.out.trans (hB.mono HB.out.size)⟩

end Go.Proofs.Ytngbamoffjlodaa
