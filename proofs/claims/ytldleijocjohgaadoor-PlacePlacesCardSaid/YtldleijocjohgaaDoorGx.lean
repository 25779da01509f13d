/-
  The contracts of the document's Place and Puts. No statement is proved here.
-/
import Derived.Test.YtldleijocjohgaaDoorGw
import Derived.Test.YtldleijocjohgaaDoorGr
namespace Go.Proofs.YtldleijocjohgaaDoor
open Go.RowKit

/-- where all of a row go, -1 for those that wait -/
def cT (t : Tu) : Int := cOf (t.c, t.p)
def atL (l : List Wi) (S : Nat) : List Int := (tus bestW l S).map cT
theorem atL_len (l : List Wi) (S : Nat) : (atL l S).length = l.length := by unfold atL; rw [List.length_map, tus_length]
theorem atL_step {l : List Wi} {k : Nat} {x : Wi} (hk : l[k]? = some x) (S : Nat) : atL (l.take (k + 1)) S = atL (l.take k) S ++ [takesV x (lefts bestW (l.take k) S)] := by
  unfold atL
  rw [tus_step bestW hk, List.map_append]
  rfl
theorem takes_yes {x : Wi} (hx : UW x) (hr : rightM (x.h, x.s) = true) {L : Nat} (hL : L < 256) (h : 0 ≤ takesV x L) : hasB (L : Int) (takesV x L) = true ∧ afterS L (bestW x L).1 (bestW x L).2 = outN L (takesV x L) := by
  unfold takesV cOf at *
  cases hp : (bestW x L).2 with
  | false => rw [hp, if_neg (by simp)] at h; omega
  | true =>
    rw [if_pos rfl]
    exact ⟨al_in hx hr hL ((best_facts hx L).1 hp), after_yes _ _⟩
theorem takes_no {x : Wi} (hx : UW x) (hr : rightM (x.h, x.s) = true) {L : Nat} (hL : L < 256) (h : ¬ 0 ≤ takesV x L) : takesV x L = -1 ∧ afterS L (bestW x L).1 (bestW x L).2 = L := by
  unfold takesV cOf at *
  cases hp : (bestW x L).2 with
  | false => exact ⟨rfl, after_no _ _⟩
  | true =>
    rw [hp, if_pos rfl] at h
    have := has_cpu (al_in hx hr hL ((best_facts hx L).1 hp))
    exact absurd (cpuB_true this).1 h

set_option maxRecDepth 100000 in
set_option maxHeartbeats 4000000 in
theorem rplace_any (A : Option Addr) (n c : Nat) (l : List Wi) (S : Nat) (w : World) (hR : Reads w w.heap.size 4 A n (wivs l)) (hU : ∀ (k : Nat) (x : Wi), l[k]? = some x → UW x) (hr : rightW l = true) (hS : S < 256) (hn : n ≤ 1000) :
    Calls Tryd.prog 15 #[.slice A n c, .int .u32 (S : Int)] w (fun e w' => ∃ v, e = .returned (.tuple #[v, .int .u32 (lefts bestW l S : Int)]) ∧ w'.ownsRow w.heap.size 3 1 v n (vs (atL l S)) ∧ Below w.heap.size w w') := by
  obtain ⟨i0, hi0, hz0, hz1, hz2⟩ := info_parts int_info
  have HL := Lib.hid (wishes_len hR)
  have HR := Lib.hid hR
  have HX := Lib.hid (fun (k : Nat) (x : Wi) (h : l[k]? = some x) => And.intro (hU k x h) (wi_parts (right_wish hr h).1).2.2.2.2)
  have HT := Lib.hid (fun (x : Wi) (L : Nat) (h1 : UW x) (h2 : rightM (x.h, x.s) = true) (h3 : L < 256) u => rtakes_any x L u h1 h2 h3)
  have HW := Lib.hid (fun (L : Nat) (cc : Int) (h1 : L < 256) (h2 : hasB (L : Int) cc = true) u => rwithout_any L cc u h1 h2)
  have HS := Lib.hid hS
  clear hR hU hr hS
  go_enter Tryd.func15, Tryd.ntmps15
  go_wp2_with fail
  go_loopw [1, 6, 7] (fun s v i wr => ∃ k : Nat, k ≤ n ∧ i = .int .i64 (k : Int) ∧ s = .int .u32 (lefts bestW (l.take k) S : Int) ∧ wr.ownsRow w.heap.size 3 1 v k (vs (atL (l.take k) S)) ∧ Below w.heap.size w wr) (fun _ _ i _ => n - (intOf i).toNat)
  case atStart => exact ⟨0, by omega, rfl, rfl, World.ownsRow_nil _ _ _ _, Below.refl _ _⟩
  case round =>
    obtain ⟨k, hk, rfl, rfl, hO, hB⟩ := hrel
    by_cases hlt : k < n
    · obtain ⟨x, hm⟩ := elem_at (l := l) (k := k) (by rw [HL.out]; exact hlt)
      obtain ⟨ad, rfl, hb, d0, d1, d2, d3⟩ := wish_at (HR.out.below hB) hm
      have i1 : (0 : Int) ≤ (k : Int) := by omega
      have i2 : (k : Int) < (n : Int) := by omega
      obtain ⟨hx, hr⟩ := HX.out k x hm
      have hL : lefts bestW (l.take k) S < 256 := lefts_small bestW _ S HS.out
      have HA := Lib.hid (atL_step hm S)
      have HF := Lib.hid (lefts_step bestW hm S)
      have HY := Lib.hid (fun h => takes_yes hx hr hL h)
      have HN := Lib.hid (fun h => takes_no hx hr hL h)
      generalize lefts bestW (l.take k) S = L at *
      have HT2 := Lib.hid (fun u => HT.out x L hx hr hL u)
      have HW2 := Lib.hid (fun cc h2 u => HW.out L cc hL h2 u)
      generalize takesV x L = T at *
      generalize afterS L (bestW x L).1 (bestW x L).2 = F at *
      obtain ⟨v, a, h, s⟩ := x
      have HO := Lib.hid hO
      have HB := Lib.hid hB
      clear hm hb hx hr hL hO hB
      go_wp2_with fail
      refine (HT2.out _).mono ?_
      rintro e w2 ⟨rfl, h2⟩
      have HO2 := Lib.hid (own_below HO.out h2)
      have HB2 := Lib.hid (HB.out.trans (h2.mono HB.out.size))
      have hzw := HB2.out.size
      clear h2 d0 d1 d2 d3
      by_cases hT : 0 ≤ T
      · have g1 : decide ((0 : Int) ≤ T) = true := decide_eq_true hT
        have g2 : (0 : Int) ≤ T := hT
        obtain ⟨y1, y2⟩ := HY.out hT
        have HW3 := Lib.hid (HW2.out T y1)
        have HF2 := Lib.hid (HF.out.trans y2)
        clear hT y1 y2 HY HN HF
        generalize outN L T = O at *
        go_wp2_with (
          at_builtin
          refine wpList_append_own _ rfl (.tmp 21) (.tmp 23) 30 rfl w.heap.size 3 i0 (.int .i64 0) 1 8 Tryd.underlying30 hi0 hz0 hz1 hz2 rfl (by decide) _ k _ rfl (HO2.out.alloc _) ⟨_, 0, none⟩ 1 1 [.int .i64 T] rfl rfl (cell_one_new _ _ _) (by simp [Value.oneCell']) (by simp only [maxLen]; omega) (by omega) (by simp; omega) ?_
          intro v3 w3 hown3 hg3 _
          have HO3 := Lib.hid hown3
          have HB3 := Lib.hid ((HB2.out.alloc HB2.out.size (.cells #[.int .i64 T] 3)).grown hg3 (by simp; omega) (fun g hg => (HO2.out.lt g hg).1))
          clear hown3 hg3)
        have HO4 : Hid (w3.ownsRow w.heap.size 3 1 v3 (k + 1) (vs (atL (l.take (k + 1)) S))) := Lib.hid (by
          rw [HA.out, vs_append, vs_one]
          exact HO3.out)
        refine (HW3.out _).mono ?_
        rintro e w5 ⟨rfl, h5⟩
        have HO5 := Lib.hid (own_below HO4.out h5)
        have HB5 := Lib.hid (HB3.out.trans (h5.mono HB3.out.size))
        clear h5
        go_wp2
        go_roundw
        case rel => exact ⟨k + 1, by omega, by go_num, by rw [HF2.out], HO5.out, HB5.out⟩
        case measure => simp [intOf] <;> omega
      · obtain ⟨rfl, y2⟩ := HN.out (by omega)
        have HF2 := Lib.hid (HF.out.trans y2)
        clear hT HY HN HF HW2 y2
        go_wp2_with (
          at_builtin
          refine wpList_append_own _ rfl (.tmp 21) (.tmp 23) 30 rfl w.heap.size 3 i0 (.int .i64 0) 1 8 Tryd.underlying30 hi0 hz0 hz1 hz2 rfl (by decide) _ k _ rfl (HO2.out.alloc _) ⟨_, 0, none⟩ 1 1 [.int .i64 (-1)] rfl rfl (cell_one_new _ _ _) (by simp [Value.oneCell']) (by simp only [maxLen]; omega) (by omega) (by simp; omega) ?_
          intro v3 w3 hown3 hg3 _
          have HO3 := Lib.hid hown3
          have HB3 := Lib.hid ((HB2.out.alloc HB2.out.size (.cells #[.int .i64 (-1)] 3)).grown hg3 (by simp; omega) (fun g hg => (HO2.out.lt g hg).1))
          clear hown3 hg3)
        have HO4 : Hid (w3.ownsRow w.heap.size 3 1 v3 (k + 1) (vs (atL (l.take (k + 1)) S))) := Lib.hid (by
          rw [HA.out, vs_append, vs_one]
          exact HO3.out)
        go_roundw
        case rel => exact ⟨k + 1, by omega, by go_num, by rw [HF2.out], HO4.out, HB3.out⟩
        case measure => simp [intOf] <;> omega
    · obtain rfl : n = k := by omega
      have e1 : l.take n = l := by rw [← HL.out]; exact List.take_length
      rw [e1] at hO ⊢
      clear e1
      go_wp2
      go_ret2
      exact ⟨_, rfl, hO, hB⟩

end Go.Proofs.YtldleijocjohgaaDoor
