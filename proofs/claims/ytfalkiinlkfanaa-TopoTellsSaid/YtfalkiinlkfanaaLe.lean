/-
  The contract of the landed topo: Dist. No statement is proved here.
-/
import Derived.Test.YtfalkiinlkfanaaLb
import Derived.Test.YtfalkiinlkfanaaLc
namespace Go.Proofs.Ytfalkiinlkfanaa
open Go.RowKit

theorem reads_row {w : World} {g : Nat} {t : TypeId} {cs : Array Value} (h : Blk w g t cs) : Reads w w.heap.size 1 (some ⟨g, 0, none⟩) cs.size cs.toList := by
  refine ⟨by simp, fun _ => ⟨_, rfl, h.lt, fun j u hj => ?_⟩⟩
  have e : (⟨g, 0, none⟩ : Addr).add j = ⟨g, j, none⟩ := by unfold Addr.add; by_cases hj0 : j = 0 <;> simp [hj0]
  rw [e, h.cell j]
  simpa using hj

theorem At.dist {u : World} {A : Option Addr} {n c : Nat} {l : List (Int × Int)} (h : At u A n c l) {a b : Nat} (ha : a < n) (hb : b < n) :
    Calls Try.prog 48 #[.agg #[.slice A n c], .int .i64 (a : Int), .int .i64 (b : Int)] u (Said (.int .i64 (distN l a b)) u) := distance_any A n c l a b u h.1 ha hb

set_option maxRecDepth 100000 in
set_option maxHeartbeats 2000000 in
theorem tdist_ok : TDistOk := by
  intro A n c l a b w hAt
  have hl := hAt.len
  obtain ⟨K1, K2, B⟩ := blks2 w 27 3 #[.slice A n c] #[.int .i64 a, .int .i64 b]
  have hrow : Reads _ _ 1 (some ⟨w.heap.size + 1, 0, none⟩) 2 (vs [a, b]) := reads_row K2
  have hAt1 := hAt.past B (Nat.le_refl _)
  have hrf := refused_any A n c l (some ⟨w.heap.size + 1, 0, none⟩) 2 2 [a, b] _ hAt1 hrow (by omega)
  have HB := Lib.hid (And.intro K1 (And.intro B hAt1))
  clear hAt K1 K2 B hrow hAt1
  by_cases hno : refT l [a, b] = 0
  · rw [hno] at hrf
    obtain ⟨hr, hx⟩ : rightT l = true ∧ (cpuT n a && cpuT n b) = true := by
      unfold refT at hno
      cases hr : rightT l with
      | false => rw [hr] at hno; simp at hno
      | true =>
        rw [hr, hl] at hno
        refine ⟨rfl, ?_⟩
        simp only [if_true] at hno
        split at hno
        · rename_i h; simpa using h
        · omega
    obtain ⟨ka, rfl, ha⟩ := cpuT_true (Bool.and_eq_true_iff.1 hx).1
    obtain ⟨kb, rfl, hb⟩ := cpuT_true (Bool.and_eq_true_iff.1 hx).2
    have hv : distR l (ka : Int) (kb : Int) = (distN l ka kb, 0) := dist_in hr (by omega) (by omega)
    rw [hv]
    have HF := Lib.hid hrf
    have HD := Lib.hid (fun u (h : Below w.heap.size w u) (h2 : At u A n c l) => h2.dist (a := ka) (b := kb) ha hb)
    clear hrf hno hr hx hv ha hb hl
    generalize distN l ka kb = D at HD ⊢
    go_enter Try.func20, Try.ntmps20
    go_wp2_with fail
    refine HF.out.mono ?_
    rintro e w1 ⟨rfl, h1⟩
    have K1 := HB.out.1.below h1 HB.out.1.lt
    have B1 := HB.out.2.1.trans (h1.mono HB.out.2.1.size)
    have A1 := HB.out.2.2.below h1
    have c1 := K1.cell 0
    have HA1 := Lib.hid A1
    have HB1 := Lib.hid B1
    clear h1 A1 B1 HF
    go_wp2_with fail
    refine (HD.out _ HB1.out HA1.out).mono ?_
    rintro e w2 ⟨rfl, h2⟩
    have B2 := Lib.hid (HB1.out.trans (h2.mono HB1.out.size))
    clear h2 c1 K1
    go_wp2
    go_ret2
    exact ⟨rfl, B2.out⟩
  · have hv : distR l a b = (0, refT l [a, b]) := by
      unfold distR refT
      unfold refT at hno
      cases hr : rightT l with
      | false => rfl
      | true =>
        rw [hr] at hno
        simp only [if_true] at hno ⊢
        have : ([a, b].all (cpuT l.length)) = (cpuT l.length a && cpuT l.length b) := by simp
        rw [this] at hno ⊢
        split at hno
        · exact absurd rfl hno
        · rename_i h; rw [if_neg h, if_neg h]
    rw [hv]
    generalize refT l [a, b] = O at hrf hno ⊢
    have HF := Lib.hid hrf
    have hno2 : (O == 0) = false := by simpa using hno
    clear hrf hno hv hl
    go_enter Try.func20, Try.ntmps20
    go_wp2_with fail
    refine HF.out.mono ?_
    rintro e w1 ⟨rfl, h1⟩
    have B1 := Lib.hid (HB.out.2.1.trans (h1.mono HB.out.2.1.size))
    clear h1 HF
    go_wp2
    go_ret2
    exact ⟨rfl, B1.out⟩

end Go.Proofs.Ytfalkiinlkfanaa
