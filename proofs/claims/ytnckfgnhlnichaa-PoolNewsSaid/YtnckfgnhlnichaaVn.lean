/-
  PoolNews' walk, on what is asked of the landed calls.
-/
import Derived.Test.YtnckfgnhlnichaaVp
namespace Go.Proofs.Ytnckfgnhlnichaa
open Go.RowKit

theorem wrap_pow9 {k : Nat} (hk : k ≤ 8) : IntKind.u32.wrap ((2 : Int) ^ k) = 2 ^ k ∧ IntKind.u32.wrap ((2 : Int) ^ k - 1) = ((2 ^ k - 1 : Nat) : Int) ∧ 2 ^ k - 1 < 256 := by
  have : k = 0 ∨ k = 1 ∨ k = 2 ∨ k = 3 ∨ k = 4 ∨ k = 5 ∨ k = 6 ∨ k = 7 ∨ k = 8 := by omega
  rcases this with rfl | rfl | rfl | rfl | rfl | rfl | rfl | rfl | rfl <;> decide +kernel

set_option maxRecDepth 100000 in
set_option maxHeartbeats 8000000 in
theorem news_walk {G : World → Prop} (hG : Steady G) (HN : PNewOk G) (hk : ∀ u, G u → Calls Try.prog 9 #[] u (Said (.bool true) u)) (A : Option Addr) (n c : Nat) (l : List Int) (w : World) (hg : G w) (hR : Reads w w.heap.size 1 A n (vs l)) :
    Calls Try.prog 5 #[.slice A n c] w (Said (.bool true) w) := by
  have HGs := Lib.hid (fun (u : World) (h : Below w.heap.size w u) => hG w u hg h)
  have HNw := Lib.hid HN
  have HK := Lib.hid (hk w hg)
  have HR := Lib.hid hR
  clear hg hR hG
  go_enter Try.func5, Try.ntmps5
  go_wp2_with fail
  refine HK.out.mono ?_
  rintro e w1 ⟨rfl, B1⟩
  go_wp2_with fail
  go_loopw [11] (fun i wr => ∃ k : Nat, k ≤ n ∧ k ≤ 20 ∧ i = .int .i64 (k : Int) ∧ Below w.heap.size w wr) (fun i _ => n - (intOf i).toNat)
  case atStart => exact ⟨0, by omega, by omega, rfl, B1⟩
  case round =>
    clear B1
    obtain ⟨k, hk', h20, rfl, Br⟩ := hrel
    by_cases hlt : k < n
    · obtain ⟨ad, u, rfl, _, hz, hc⟩ := (HR.out.below Br).at_ hlt
      obtain ⟨z, _, rfl⟩ := vs_at hz
      clear hz
      by_cases hk20 : k = 20
      · have q : ((k : Int) == 20) = true := by simp; omega
        have BH := Lib.hid Br
        clear hk20 h20 Br
        go_wp2
        go_ret
        exact ⟨rfl, BH.out⟩
      · have q : ((k : Int) == 20) = false := by simp; omega
        have HNz := Lib.hid (HNw.out z wr (HGs.out _ Br))
        have HK20 : Hid (k + 1 ≤ 20 ∧ k < n) := Lib.hid (by omega)
        have k9 : k < 100 := by omega
        by_cases hz1 : 1 ≤ z ∧ z ≤ 8
        · obtain ⟨z1, z8⟩ := hz1
          obtain ⟨zn, rfl⟩ := Int.eq_ofNat_of_zero_le (show 0 ≤ z by omega)
          obtain ⟨p1, p2, p3⟩ := wrap_pow9 (k := zn) (by omega)
          rw [show newR (zn : Int) = ([2 ^ zn - 1], 0) by unfold newR; rw [if_pos ⟨z1, z8⟩, Int.toNat_natCast]] at HNz
          have g1 : decide ((zn : Int) < 1) = false := decide_eq_false (by omega)
          have g2 : decide ((8 : Int) < (zn : Int)) = false := decide_eq_false (by omega)
          have g3 : (0 : Int) ≤ (zn : Int) := by omega
          have g4 : (zn : Int) ≤ 32 := by omega
          generalize 2 ^ zn - 1 = x at *
          clear hk20 h20 z1 z8
          go_wp2_with fail
          refine HNz.out.mono ?_
          rintro e w2 ⟨A2, c2, rfl, own2, b2⟩
          rw [show ([x], (0 : Int)).1.length = 1 from rfl] at own2 ⊢
          have B2 := Br.trans (b2.mono Br.size)
          have BH := Lib.hid (B2.alloc B2.size (.cells #[.slice A2 1 c2] 24))
          obtain ⟨ad2, y, rfl, hb2, hy, hc2⟩ := uset_at (own_reads' own2) (k := 0) (by omega)
          obtain rfl : x = y := by simpa using hy
          have d1 : (w2.alloc (.cells #[.slice (some ad2) 1 c2] 24)).cell? ad2 = some (.int .u32 (x : Int)) := (World.cell?_alloc_lt w2 _ ad2 hb2).trans hc2
          clear own2 b2 B2 Br hb2 hy hc2 hc
          go_wp2_with fail
          go_quiet (fail)
          clear p1 p2 d1
          go_wp2
          go_roundw
          case rel => exact ⟨k + 1, HK20.out.2, HK20.out.1, by go_num, below_drewN BH.out _⟩
          case measure => have := HK20.out.2; simp [intOf] <;> omega
        · rw [show newR z = ([], 2) by unfold newR; rw [if_neg hz1]] at HNz
          have hgs : decide (z < 1) = true ∨ (decide (z < 1) = false ∧ decide ((8 : Int) < z) = true) := by
            by_cases h : z < 1
            · exact .inl (decide_eq_true h)
            · exact .inr ⟨decide_eq_false h, decide_eq_true (by omega)⟩
          clear hk20 h20 hz1
          rcases hgs with g1 | ⟨g1, g2⟩
          all_goals
            go_wp2_with fail
            refine HNz.out.mono ?_
            rintro e w2 ⟨A2, c2, rfl, own2, b2⟩
            rw [show (([], (2 : Int)) : List Nat × Int).1.length = 0 from rfl] at own2 ⊢
            have B2 := Br.trans (b2.mono Br.size)
            have BH := Lib.hid (B2.alloc B2.size (.cells #[.slice A2 0 c2] 24))
            clear own2 b2 B2 Br hc
            go_wp2
            go_roundw
            case rel => exact ⟨k + 1, HK20.out.2, HK20.out.1, by go_num, BH.out⟩
            case measure => have := HK20.out.2; simp [intOf] <;> omega
    · have BH := Lib.hid Br
      obtain rfl : n = k := by omega
      go_wp2
      go_ret
      exact ⟨rfl, BH.out⟩

end Go.Proofs.Ytnckfgnhlnichaa
