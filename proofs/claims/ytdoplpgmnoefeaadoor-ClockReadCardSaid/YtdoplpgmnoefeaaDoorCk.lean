/-
  The contracts of the times' and spans' own calls (Check, Add, Less, Stop, Ago, Up, Down, Times), and of the document's answers to them. No statement is proved here.
-/
import Derived.Test.YtdoplpgmnoefeaaDoorRows
import Derived.WalkKit
import Derived.WalkSpells
import Derived.WalkLawsBesides
import Derived.RegionTactic
import Derived.Deep.QuietTactic
import Derived.BigQuiet
import Derived.Lib.Hide
import Derived.OwnWalk
namespace Go.Proofs.YtdoplpgmnoefeaaDoor
open Go.RowKit

/-- may it be a time -/
def rt (t : Int) : Bool := decide (0 ≤ t ∧ t ≤ 1125899906842624)
theorem rt_true {t : Int} (h : rt t = true) : 0 ≤ t ∧ t ≤ 1125899906842624 := of_decide_eq_true h
theorem rt_mk {t : Int} (h0 : 0 ≤ t) (h1 : t ≤ 1125899906842624) : rt t = true := decide_eq_true ⟨h0, h1⟩
theorem rt_false {t : Int} (h : rt t = false) : t < 0 ∨ 1125899906842624 < t := by
  have := of_decide_eq_false h
  omega
theorem rt_no {t : Int} (h : t < 0 ∨ 1125899906842624 < t) : rt t = false := decide_eq_false (by omega)

theorem ret_int {k : IntKind} {a b : Int} (h : a = b) : Ending.returned (.int k a) = .returned (.int k b) := by rw [h]
theorem ret_bool {a b : Bool} (h : a = b) : Ending.returned (.bool a) = .returned (.bool b) := by rw [h]

def chk (ts : List Int) : Int := if ts.all rt then 0 else 120
theorem chk_ok {ts : List Int} (h : ts.all rt = true) : chk ts = 0 := by simp [chk, h]
theorem chk_bad {ts : List Int} {k : Nat} {t : Int} (hk : ts[k]? = some t) (h : rt t = false) : chk ts = 120 := by
  have : ts.all rt = false := by
    rw [List.all_eq_false]
    exact ⟨t, List.mem_of_getElem? hk, by simp [h]⟩
  simp [chk, this]

set_option maxHeartbeats 400000 in
theorem checkAll_any (g n : Nat) (ts : List Int) (w : World) (hl : ts.length = n) (hc : ∀ (k : Nat) (t : Int), ts[k]? = some t → w.cell? ⟨g, k, none⟩ = some (.int .i64 t)) (hn : n ≤ 100) :
    Calls Tryd.prog 30 #[.slice (some ⟨g, 0, none⟩) n n] w fun e w' => e = .returned (.int .i64 (chk ts)) ∧ w = w' := by
  have HC := Lib.hid hc
  clear hc
  go_enter Tryd.func30, Tryd.ntmps30
  go_wp2
  go_loop [7] (fun i => ∃ k : Nat, k ≤ n ∧ i = .int .i64 k ∧ (ts.take k).all rt = true) (fun i => n - (intOf i).toNat)
  case atStart => exact ⟨0, by omega, rfl, rfl⟩
  case round =>
    obtain ⟨k, hk, rfl, hall⟩ := hrel
    by_cases hlt : k < n
    · obtain ⟨t, ht⟩ : ∃ t, ts[k]? = some t := ⟨_, List.getElem?_eq_getElem (by omega)⟩
      have hcell := HC.out k t ht
      have HT := Lib.hid ht
      have HA := Lib.hid hall
      clear hall ht
      by_cases h0 : t < 0
      · go_wp2
        go_ret
        exact ⟨ret_int (chk_bad HT.out (rt_no (.inl h0))).symm, rfl⟩
      · by_cases h1 : 1125899906842624 < t
        · go_wp2
          go_ret
          exact ⟨ret_int (chk_bad HT.out (rt_no (.inr h1))).symm, rfl⟩
        · go_wp2
          go_round
          case rel =>
            refine ⟨k + 1, by omega, by go_num, ?_⟩
            rw [List.take_add_one, HT.out]
            have := HA.out
            simp [rt_mk (show (0 : Int) ≤ t by omega) (show t ≤ 1125899906842624 by omega)]
            simpa using this
          case measure => simp [intOf]; omega
    · obtain rfl : n = k := by omega
      have HA := Lib.hid hall
      clear hall
      go_wp2
      go_ret
      refine ⟨ret_int (chk_ok ?_).symm, rfl⟩
      have := HA.out
      rwa [List.take_of_length_le (by omega)] at this

theorem checkAll_two (t d : Int) (w : World) :
    Calls Tryd.prog 30 #[.slice (some ⟨w.heap.size, 0, none⟩) 2 2] (w.alloc (.cells #[.int .i64 t, .int .i64 d] 2))
      fun e w' => e = .returned (.int .i64 (chk [t, d])) ∧ w.alloc (.cells #[.int .i64 t, .int .i64 d] 2) = w' :=
  checkAll_any w.heap.size 2 [t, d] _ rfl (fun k x hk => by
    rw [World.cell?_alloc_at _ _ _ _ rfl]
    match k, hk with
    | 0, hk => simp at hk; subst hk; rfl
    | 1, hk => simp at hk; subst hk; rfl
    | k + 2, hk => simp at hk) (by omega)
theorem checkAll_one (t : Int) (w : World) :
    Calls Tryd.prog 30 #[.slice (some ⟨w.heap.size, 0, none⟩) 1 1] (w.alloc (.cells #[.int .i64 t] 2))
      fun e w' => e = .returned (.int .i64 (chk [t])) ∧ w.alloc (.cells #[.int .i64 t] 2) = w' :=
  checkAll_any w.heap.size 1 [t] _ rfl (fun k x hk => by
    rw [World.cell?_alloc_at _ _ _ _ rfl]
    match k, hk with
    | 0, hk => simp at hk; subst hk; rfl
    | k + 1, hk => simp at hk) (by omega)

theorem chk1 (t : Int) : chk [t] = 0 ∧ rt t = true ∨ chk [t] = 120 ∧ rt t = false := by
  by_cases h : rt t = true <;> simp [chk, h]
theorem chk2 (t d : Int) : chk [t, d] = 0 ∧ rt t = true ∧ rt d = true ∨ chk [t, d] = 120 ∧ (rt t && rt d) = false := by
  by_cases h : rt t = true <;> by_cases h' : rt d = true <;> simp [chk, h, h']

set_option maxHeartbeats 400000 in
theorem check_any (t : Int) (w : World) :
    Calls Tryd.prog 12 #[.int .i64 t] w fun e w' => e = .returned (.int .i64 (chk [t])) ∧ Below w.heap.size w w' := by
  go_enter Tryd.func12, Tryd.ntmps12
  go_wp2_with fail
  refine (checkAll_one t w).mono ?_
  rintro e w' ⟨rfl, rfl⟩
  go_wp2
  go_ret
  exact ⟨rfl, (Below.refl _ _).alloc (Nat.le_refl _) _⟩

/-- what is missing of a multiple -/
def miss (t s : Int) : Int := if 0 < t % s then s - t % s else 0
set_option maxHeartbeats 400000 in
theorem missing_any (t s : Int) (w : World) (h0 : 0 ≤ t) (h1 : t ≤ 1125899906842624) (h2 : 0 < s) (h3 : s ≤ 1125899906842624) :
    Calls Tryd.prog 32 #[.int .i64 t, .int .i64 s] w fun e w' => e = .returned (.int .i64 (miss t s)) ∧ w = w' := by
  have a0 := Int.emod_nonneg t (show s ≠ 0 by omega)
  have a1 := Int.emod_lt_of_pos t h2
  by_cases hc : 0 < t % s
  · have HM : miss t s = s - t % s := if_pos hc
    rw [HM]
    clear HM
    have g : t % s ≠ 0 := by omega
    go_enter Tryd.func32, Tryd.ntmps32
    go_wp2
    go_ret
    exact ⟨rfl, rfl⟩
  · have HM : miss t s = 0 := if_neg hc
    rw [HM]
    clear HM
    have g : Hid (t % s = 0) := Lib.hid (by omega)
    go_enter Tryd.func32, Tryd.ntmps32
    go_wp2
    go_ret
    exact ⟨rfl, rfl⟩

end Go.Proofs.YtdoplpgmnoefeaaDoor
