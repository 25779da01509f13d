/-
  The contract of the document's Near. No statement is proved here.
-/
import Derived.Test.YtfalkiinlkfanaaTc
namespace Go.Proofs.Ytfalkiinlkfanaa
open Go.RowKit

/-- those of a set below k at a distance -/
def rowD (l : List (Int × Int)) (s : Int) (cpu d k : Nat) : List Int := ((List.range k).filter fun (j : Nat) => hasB s (j : Int) && (distN l cpu j == (d : Int))).map fun (j : Nat) => (j : Int)
/-- those at the first d distances -/
def nearO (l : List (Int × Int)) (s : Int) (cpu d : Nat) : List Int := (List.range d).flatMap fun e => rowD l s cpu e l.length
def nearL (l : List (Int × Int)) (s : Int) (cpu : Nat) : List Int := nearO l s cpu 4
theorem rowD_yes {l : List (Int × Int)} {s : Int} {cpu d k : Nat} (h1 : hasB s (k : Int) = true) (h2 : (distN l cpu k == (d : Int)) = true) : rowD l s cpu d (k + 1) = rowD l s cpu d k ++ [(k : Int)] := by
  unfold rowD
  rw [List.range_succ, List.filter_append, List.map_append]
  simp [h1, h2]
theorem rowD_no {l : List (Int × Int)} {s : Int} {cpu d k : Nat} (h : (hasB s (k : Int) && (distN l cpu k == (d : Int))) = false) : rowD l s cpu d (k + 1) = rowD l s cpu d k := by
  unfold rowD
  rw [List.range_succ, List.filter_append, List.map_append]
  simp [h]
theorem length_rowD (l : List (Int × Int)) (s : Int) (cpu d k : Nat) : (rowD l s cpu d k).length ≤ k := by
  unfold rowD
  rw [List.length_map]
  refine Nat.le_trans (List.length_filter_le _ _) ?_
  rw [List.length_range]
  exact Nat.le_refl _
theorem nearO_step (l : List (Int × Int)) (s : Int) (cpu d : Nat) : nearO l s cpu (d + 1) = nearO l s cpu d ++ rowD l s cpu d l.length := by
  unfold nearO
  rw [List.range_succ, List.flatMap_append]
  simp
theorem length_nearO (l : List (Int × Int)) (s : Int) (cpu d : Nat) : (nearO l s cpu d).length ≤ d * l.length := by
  induction d with
  | zero => exact Nat.le_of_eq (by rw [Nat.zero_mul]; rfl)
  | succ d ih =>
    rw [nearO_step, List.length_append, Nat.add_mul, Nat.one_mul]
    have := length_rowD l s cpu d l.length
    omega

theorem own_below {w w' : World} {base n size : Nat} {e : TypeId} {v : Value} {xs : List Value} (h : w.ownsRow base e size v n xs) (hb : Below w.heap.size w w') : w'.ownsRow base e size v n xs :=
  h.kept (row := none) ⟨hb.os, hb.tape, hb.output, hb.size, fun k hk _ => hb.block k hk⟩ (by cases v.ownBlock <;> simp)
/-- a call answers a row of numbers in memory of its own -/
def Lists (w : World) (l : List Int) (e : Ending) (w' : World) : Prop :=
  ∃ A n c, e = .returned (.slice A n c) ∧ n = l.length ∧ Reads w' w'.heap.size 1 A n (vs l) ∧ Below w.heap.size w w'

set_option maxRecDepth 100000 in
set_option maxHeartbeats 4000000 in
theorem rnear_any (A : Option Addr) (n c : Nat) (l : List (Int × Int)) (cpu : Nat) (s : Int) (w : World) (hR : Reads w w.heap.size 2 A n (svs l)) (hn : n ≤ 9) (hc : cpu < n) (h0 : 0 ≤ s) :
    Calls Try.prog 24 #[.agg #[.slice A n c], .int .i64 (cpu : Int), .int .u32 s] w (Lists w (nearL l s cpu)) := by
  obtain ⟨i0, hi0, hz0, hz1, hz2⟩ := info_parts int_info
  have HL := Lib.hid (reads_len hR)
  have HR := Lib.hid hR
  have HH := Lib.hid (fun (k : Nat) u => rhas_any s (k : Int) u h0)
  have HD := Lib.hid (fun (k : Nat) (hk : k < n) u (hb : Below w.heap.size w u) => rdist_any A n c l cpu k u ((HR.out.below hb).more hb.size) hc hk)
  obtain ⟨K, B⟩ : Blk (w.alloc (.cells #[.slice A n c] 27)) w.heap.size 27 #[.slice A n c] ∧ Below w.heap.size w (w.alloc (.cells #[.slice A n c] 27)) := ⟨Blk.new _ _ _, (Below.refl _ _).alloc (Nat.le_refl _) _⟩
  have HB := Lib.hid (And.intro K B)
  clear hR K B h0
  go_enter Try.func24, Try.ntmps24
  go_wp2_with fail
  go_loopw [7, 8] (fun v i wr => ∃ d m : Nat, d ≤ 4 ∧ i = .int .i64 (d : Int) ∧ Hid (m = (nearO l s cpu d).length) ∧ Hid (wr.ownsRow (w.heap.size + 1) 3 1 v m (vs (nearO l s cpu d))) ∧ Blk wr w.heap.size 27 #[.slice A n c] ∧ Below w.heap.size w wr) (fun _ i _ => 4 - (intOf i).toNat)
  case atStart => exact ⟨0, 0, by omega, rfl, Lib.hid rfl, Lib.hid (World.ownsRow_nil _ _ _ _), HB.out.1, HB.out.2⟩
  case round =>
    obtain ⟨d, m, hd, rfl, Hm, HO, hK, hB⟩ := hrel
    by_cases hlt : d < 4
    · have hd3 : (d : Int) ≤ 3 := by omega
      have c0 : wr.cell? ⟨w.heap.size, 0, none⟩ = some (.slice A n c) := hK.cell 0
      have Hm36 : Hid (m ≤ 36) := Lib.hid (by
        have h1 := length_nearO l s cpu d
        rw [Hm.out]
        have h2 : d * l.length ≤ 4 * 9 := Nat.mul_le_mul hd (by rw [HL.out]; exact hn)
        omega)
      go_wp2_with fail
      clear c0
      go_loopw [7, 17] (fun v i wr => ∃ k q : Nat, k ≤ n ∧ i = .int .i64 (k : Int) ∧ Hid (q = (rowD l s cpu d k).length) ∧ Hid (wr.ownsRow (w.heap.size + 1) 3 1 v (m + q) (vs (nearO l s cpu d ++ rowD l s cpu d k))) ∧ Blk wr w.heap.size 27 #[.slice A n c] ∧ Below w.heap.size w wr) (fun _ i _ => n - (intOf i).toNat)
      case atStart => exact ⟨0, 0, by omega, rfl, Lib.hid rfl, Lib.hid (by rw [show rowD l s cpu d 0 = [] from rfl, List.append_nil]; exact HO.out), hK, hB⟩
      case round =>
        clear HO hK hB
        obtain ⟨k, q, hk, rfl, Hq, HO, hK, hB⟩ := hrel
        by_cases hkn : k < n
        · have hsz := hB.size
          have Hq9 : Hid (q ≤ 9) := Lib.hid (by rw [Hq.out]; have := length_rowD l s cpu d k; omega)
          have c0 : wr.cell? ⟨w.heap.size, 0, none⟩ = some (.slice A n c) := hK.cell 0
          cases hh : hasB s (k : Int) with
          | false =>
            have HHk := Lib.hid (fun u => hh ▸ HH.out k u)
            have HN := Lib.hid (rowD_no (l := l) (s := s) (cpu := cpu) (d := d) (k := k) (by rw [hh]; rfl))
            clear hh
            go_wp2_with fail
            refine (HHk.out _).mono ?_
            rintro e w' ⟨rfl, rfl⟩
            go_wp2
            go_roundw
            case rel => exact ⟨k + 1, q, by omega, by go_num, Lib.hid (by rw [HN.out]; exact Hq.out), Lib.hid (by rw [HN.out]; exact HO.out), hK, hB⟩
            case measure => simp [intOf]; omega
          | true =>
            have HHk := Lib.hid (fun u => hh ▸ HH.out k u)
            have HDk := Lib.hid (HD.out k hkn)
            cases hdd : (distN l cpu k == (d : Int)) with
            | false =>
              have HN := Lib.hid (rowD_no (l := l) (s := s) (cpu := cpu) (d := d) (k := k) (by rw [hh, hdd]; rfl))
              generalize distN l cpu k = D at HDk hdd
              clear hh
              go_wp2_with fail
              refine (HHk.out _).mono ?_
              rintro e w' ⟨rfl, rfl⟩
              go_wp2_with fail
              refine (HDk.out _ hB).mono ?_
              rintro e w2 ⟨rfl, h2⟩
              have K2 := hK.below h2 hK.lt
              have B2 := hB.trans (h2.mono hsz)
              have HO2 := Lib.hid (own_below HO.out h2)
              clear h2 hK hB c0
              go_wp2
              go_roundw
              case rel => exact ⟨k + 1, q, by omega, by go_num, Lib.hid (by rw [HN.out]; exact Hq.out), Lib.hid (by rw [HN.out]; exact HO2.out), K2, B2⟩
              case measure => simp [intOf]; omega
            | true =>
              have HY := Lib.hid (rowD_yes (l := l) (s := s) (cpu := cpu) (d := d) (k := k) hh hdd)
              generalize distN l cpu k = D at HDk hdd
              clear hh
              go_wp2_with fail
              refine (HHk.out _).mono ?_
              rintro e w' ⟨rfl, rfl⟩
              go_wp2_with fail
              refine (HDk.out _ hB).mono ?_
              rintro e w2 ⟨rfl, h2⟩
              have K2 := hK.below h2 hK.lt
              have B2 := hB.trans (h2.mono hsz)
              have HO2 := Lib.hid (own_below HO.out h2)
              have hz2' := B2.size
              have hlt2 := K2.lt
              have m36 := Hm36.out
              have q9 := Hq9.out
              clear h2 hK hB c0
              go_wp2_with (
                at_builtin
                refine wpList_append_own _ rfl (.tmp 31) (.tmp 33) 23 rfl (w.heap.size + 1) 3 i0 (.int .i64 0) 1 8 Try.underlying23 hi0 hz0 hz1 hz2 rfl (by decide) _ (m + q) _ rfl (HO2.out.alloc _) ⟨_, 0, none⟩ 1 1 [.int .i64 (k : Int)] rfl rfl (cell_one_new _ _ _) (by simp [Value.oneCell']) (by simp only [maxLen]; omega) (by omega) (by simp <;> omega) ?_
                intro v2 w3 hown3 hg3 _)
              have hO3 : w3.ownsRow (w.heap.size + 1) 3 1 v2 (m + (q + 1)) (vs (nearO l s cpu d ++ rowD l s cpu d (k + 1))) := by
                rw [HY.out, ← List.append_assoc, vs_append, vs_one]
                exact hown3
              have hn3 : ∀ g, Value.ownBlock _ = some g → w.heap.size + 1 ≤ g := fun g hg => (HO2.out.lt g hg).1
              have K3 := (K2.alloc (.cells #[.int .i64 (k : Int)] 3)).grown hg3 (fun he => by have := hn3 _ he.symm; omega)
              have B3 : Below w.heap.size w w3 := (B2.alloc hz2' (.cells #[.int .i64 (k : Int)] 3)).grown hg3 (by simp <;> omega) (fun g hg => by have := hn3 g hg; omega)
              go_roundw
              case rel => exact ⟨k + 1, q + 1, by omega, by go_num, Lib.hid (by rw [HY.out, List.length_append, ← Hq.out]; rfl), Lib.hid hO3, K3, B3⟩
              case measure => simp [intOf]; omega
        · obtain rfl : n = k := by omega
          have HS : Hid (nearO l s cpu (d + 1) = nearO l s cpu d ++ rowD l s cpu d n) := Lib.hid (by rw [nearO_step, HL.out])
          go_wp2
          go_roundw
          case rel => exact ⟨d + 1, m + q, by omega, by go_num, Lib.hid (by rw [HS.out, List.length_append, ← Hm.out, ← Hq.out]), Lib.hid (by rw [HS.out]; exact HO.out), hK, hB⟩
          case measure => simp [intOf]; omega
    · obtain rfl : d = 4 := by omega
      obtain ⟨A2, c2, rfl, _, hr⟩ := own_reads HO.out
      have HF := Lib.hid hr
      clear HO hr hK
      go_wp2
      go_ret
      exact ⟨A2, m, c2, rfl, Hm.out, HF.out, hB⟩

end Go.Proofs.Ytfalkiinlkfanaa
