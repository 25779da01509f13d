/-
  OctetCuts: of whatever Mixed numbers whose bytes are cut anywhere just those are read that are whole; at the first one that is not the reader stops, and never walks again. No condition.
-/
import Derived.Test.YtifclmmfnfppiaaReads
import Derived.Test.YtifclmmfnfppiaaArgs
namespace Go.Proofs.Ytifclmmfnfppiaa.octetCuts
open Go.ChangeShapes Go.WideShapes Go.ChangeAt Go.RowKit

/-- the bytes of Mixed numbers -/
def mb (ms : List (Nat × Int)) : List UInt8 := ms.flatMap fun m => be m.1 (wN m.2)
theorem mb_take_succ {ms : List (Nat × Int)} {k x : Nat} {z : Int} (h : ms[k]? = some (x, z)) : mb (ms.take (k + 1)) = mb (ms.take k) ++ be x (wN z) := by
  unfold mb
  rw [List.take_add_one, h, List.flatMap_append]
  simp
theorem wN_le (z : Int) : wN z ≤ 8 ∧ 2 ≤ wN z := by rcases wN_cases z with ⟨h1, _⟩ | ⟨h1, _⟩ | ⟨h1, _⟩ <;> omega
theorem mb_len (ms : List (Nat × Int)) : (mb ms).length ≤ 8 * ms.length := by
  induction ms with
  | nil => simp [mb]
  | cons m ms ih =>
    have := (wN_le m.2).1
    have e : (mb (m :: ms)).length = wN m.2 + (mb ms).length := by simp [mb, length_be]
    simp only [List.length_cons]
    omega
theorem mb_split {ms : List (Nat × Int)} {k x : Nat} {z : Int} (h : ms[k]? = some (x, z)) : ∃ r, mb ms = mb (ms.take k) ++ (be x (wN z) ++ r) := by
  refine ⟨mb (ms.drop (k + 1)), ?_⟩
  rw [← List.append_assoc, ← mb_take_succ h]
  unfold mb
  rw [← List.flatMap_append, List.take_append_drop]

theorem add_next (ad : Addr) (i : Nat) : ad.add (i + 1) = ⟨(ad.add i).block, (ad.add i).off + 1, none⟩ := by
  unfold Addr.add
  rw [if_neg (by omega)]
  by_cases h : i = 0
  · subst h; simp
  · simp [h, Nat.add_assoc]

/-- where the first k end -/
def E (ms : List (Nat × Int)) (k : Nat) : Nat := (mb (ms.take k)).length
theorem E_zero (ms : List (Nat × Int)) : E ms 0 = 0 := by simp [E, mb]
theorem E_succ {ms : List (Nat × Int)} {k x : Nat} {z : Int} (h : ms[k]? = some (x, z)) : E ms (k + 1) = E ms k + wN z := by
  unfold E
  rw [mb_take_succ h, List.length_append, length_be]
theorem E_le (ms : List (Nat × Int)) (k : Nat) : E ms k ≤ 8 * k := by
  have h1 := mb_len (ms.take k)
  unfold E
  simp at h1
  omega
theorem ahead_take {ms : List (Nat × Int)} {k x cut : Nat} {z : Int} (h : ms[k]? = some (x, z)) (hc : E ms k + wN z ≤ cut) :
    (((mb ms).take cut).drop (E ms k)).take (wN z) = be x (wN z) ∧ wN z ≤ (((mb ms).take cut).drop (E ms k)).length := by
  obtain ⟨r, hr⟩ := mb_split h
  have hd : (mb ms).drop (E ms k) = be x (wN z) ++ r := by
    rw [hr]
    unfold E
    exact List.drop_left
  have hl : (mb ms).length = E ms k + (wN z + r.length) := by
    rw [hr]
    simp [E, length_be]
  constructor
  · rw [List.drop_take, hd, List.take_take, Nat.min_eq_left (by omega)]
    have := List.take_left (l₁ := be x (wN z)) (l₂ := r)
    rw [length_be] at this
    exact this
  · simp only [List.length_drop, List.length_take]
    omega

/-- how the reader stands behind k numbers -/
def At (ms : List (Nat × Int)) (cut p k : Nat) (w : World) : Prop :=
  ∃ l st, Rd w p l st ∧ ((st = 0 ∧ E ms k ≤ cut ∧ l = ((mb ms).take cut).drop (E ms k)) ∨ (st = 7 ∧ cut < E ms k))

/-- the cells of a row of Mixed numbers -/
def Mrow (w : World) (A : Option Addr) (ms : List (Nat × Int)) : Prop :=
  ∀ (k x : Nat) (z : Int), ms[k]? = some (x, z) → ∃ ad, A = some ad ∧ ad.block < w.heap.size ∧ w.cell? (ad.add (k * 2)) = some (.int .u64 x) ∧ w.cell? (ad.add (k * 2 + 1)) = some (.int .i64 z)

set_option maxHeartbeats 400000 in
theorem walk_big (A0 : Option Addr) (n c : Nat) (t : Int) (w : World) (hn : 200 < n) :
    Calls Try.prog 6 #[.slice A0 n c, .int .i64 t] w fun e w' => e = .returned (.bool true) ∧ Below w.heap.size w w' := by
  have hn' : (200 : Int) < (n : Int) := by omega
  go_enter Try.func6, Try.ntmps6
  go_wp2_with fail
  refine (wakes_any _).mono ?_
  rintro e w1 ⟨rfl, hB1⟩
  go_wp2
  go_ret
  exact ⟨rfl, hB1⟩

set_option maxHeartbeats 4000000 in
theorem walk (A0 : Option Addr) (n c : Nat) (ms : List (Nat × Int)) (t : Int) (w : World) (hl : ms.length = n) (hr : Mrow w A0 ms)
    (hx : ∀ (k x : Nat) (z : Int), ms[k]? = some (x, z) → (x : Int) ≤ 18446744073709551615) (hn : n ≤ 200) :
    Calls Try.prog 6 #[.slice A0 n c, .int .i64 t] w fun e w' => e = .returned (.bool true) ∧ Below w.heap.size w w' := by
  go_enter Try.func6, Try.ntmps6
  go_wp2_with fail
  refine (wakes_any _).mono ?_
  rintro e w1 ⟨rfl, hB1⟩
  go_wp2_with fail
  go_loopw [5, 22] (fun v i wr => ∃ (k m : Nat) (A : Option Addr) (cc : Nat), k ≤ n ∧ i = .int .i64 k ∧ v = .slice A m cc ∧ Own wr w.heap.size A m cc (mb (ms.take k)) ∧ Below w.heap.size w wr) (fun _ i _ => n - (intOf i).toNat)
  case atStart => exact ⟨0, 0, none, 0, by omega, rfl, rfl, World.ownsRow_nil _ _ _ _, hB1⟩
  case round =>
    obtain ⟨k, m, A, cc, hk, rfl, rfl, hO, hB⟩ := hrel
    by_cases hlt : k < n
    · obtain ⟨⟨x, z⟩, hm'⟩ : ∃ m, ms[k]? = some m := ⟨_, List.getElem?_eq_getElem (by omega)⟩
      obtain ⟨ad, rfl, hb, c0, c1⟩ := hr k x z hm'
      have d0 := (hB.cell (p := ad.add (k * 2)) (by rw [block_of_add]; exact hb)).trans c0
      have d1 := (hB.cell (p := ad.add (k * 2 + 1)) (by rw [block_of_add]; exact hb)).trans c1
      rw [add_next] at d1
      have HP := Lib.hid (fun u (hu : Below w.heap.size w u) (ho : Own u w.heap.size A m cc (mb (ms.take k))) (hm : m ≤ 100000) => mput_any x z A m cc (mb (ms.take k)) u (hx k x z hm') ho.length ho.reads hm)
      have hmb : m ≤ 8 * k := by
        have h1 := mb_len (ms.take k)
        have h2 := hO.length
        simp at h1
        omega
      clear c0 c1
      have hO1 : Own (wr.alloc (.cells #[.int .u64 x, .int .i64 z] 53)) w.heap.size A m cc (mb (ms.take k)) := World.ownsRow.alloc hO _
      have hsz := hB.size
      have hmm := hm'
      have HT := Lib.hid (mb_take_succ hm')
      clear hm' hmm
      go_wp2_with fail
      refine (HP.out _ (hB.alloc hsz _) hO1 (by omega)).mono ?_
      rintro e w2 ⟨A2, m2, rfl, hO2, hB2⟩
      have hO3 : Own w2 w.heap.size A2 (m + wN z) m2 (mb (ms.take (k + 1))) := by
        rw [HT.out]
        exact hO2.mono (by simp; omega)
      have hB3 : Below w.heap.size w w2 := (hB.alloc hsz _).trans (hB2.mono (by simp; omega))
      go_wp2
      go_roundw
      case rel => exact ⟨k + 1, m + wN z, A2, m2, by omega, by go_num, rfl, hO3, hB3⟩
      case measure => simp [intOf]; omega
    · obtain rfl : n = k := by omega
      rw [List.take_of_length_le (by omega)] at hO
      have hmb : m ≤ 8 * n := by
        have h1 := mb_len ms
        have h2 := hO.length
        omega
      have hcap := hO.cap
      obtain ⟨cut, hcut, hcm⟩ : ∃ cut : Nat, (IntKind.u64.wrap t).tmod ((m : Int) + 1) = (cut : Int) ∧ cut ≤ m := by
        refine ⟨(t % 18446744073709551616 % ((m : Int) + 1)).toNat, ?_, ?_⟩
        · rw [IntKind.wrap_u64, Int.tmod_eq_emod_of_nonneg (by omega), Int.toNat_of_nonneg (Int.emod_nonneg _ (by omega))]
        · have := Int.emod_lt_of_pos (t % 18446744073709551616) (show (0 : Int) < (m : Int) + 1 by omega)
          omega
      have hcc : cut ≤ cc := by omega
      have HRd := Lib.hid (read_any A cut cc ((mb ms).take cut) wr (by have := hO.length; simp; omega) (take_reads hO.reads hcm) (by omega))
      have HL := Lib.hid hO.length
      clear hO
      go_wp2_with fail
      refine HRd.out.mono ?_
      rintro e w2 ⟨p, rfl, hp, hRd, hB2⟩
      have hBw : Below w.heap.size w w2 := hB.trans (hB2.mono hB.size)
      have hpw : w.heap.size ≤ p := Nat.le_trans hB.size hp
      have hAt : At ms cut p 0 w2 := ⟨_, _, hRd, .inl ⟨rfl, by rw [E_zero]; omega, by rw [E_zero]; rfl⟩⟩
      clear hRd hB2 HRd hcut
      go_wp2_with fail
      go_loopw [10, 44] (fun ev i wq => ∃ k : Nat, k ≤ n ∧ i = .int .i64 k ∧ ev = .int .i64 (E ms k) ∧ At ms cut p k wq ∧ Below w.heap.size w wq) (fun _ i _ => n - (intOf i).toNat)
      case atStart => exact ⟨0, by omega, rfl, by rw [E_zero]; rfl, hAt, hBw⟩
      case round =>
        obtain ⟨k, hk, rfl, rfl, ⟨l, st, hRd, hst⟩, hBq⟩ := hrel
        by_cases hlt : k < n
        · obtain ⟨⟨x, z⟩, hm'⟩ : ∃ m, ms[k]? = some m := ⟨_, List.getElem?_eq_getElem (by omega)⟩
          obtain ⟨ad, rfl, hb, c0, c1⟩ := hr k x z hm'
          have d0 := (hBq.cell (p := ad.add (k * 2)) (by rw [block_of_add]; exact hb)).trans c0
          have d1 := (hBq.cell (p := ad.add (k * 2 + 1)) (by rw [block_of_add]; exact hb)).trans c1
          rw [add_next] at d1
          have hE := E_succ hm'
          have hE8 := E_le ms k
          have hw8 := wN_le z
          have HW := Lib.hid (fun u => width_any x z (wN z) u rfl)
          have hx' := hx k x z hm'
          clear c0 c1
          by_cases hend : E ms k + wN z ≤ cut
          · obtain ⟨rfl, hle, rfl⟩ : st = 0 ∧ E ms k ≤ cut ∧ l = ((mb ms).take cut).drop (E ms k) := by
              rcases hst with h | ⟨_, h⟩
              · exact h
              · omega
            obtain ⟨ha, hal⟩ := ahead_take hm' hend
            have hnum : num ((((mb ms).take cut).drop (E ms k)).take (wN z)) = x % 256 ^ wN z := by rw [ha, num_be]
            have hdd : (((mb ms).take cut).drop (E ms k)).drop (wN z) = ((mb ms).take cut).drop (E ms (k + 1)) := by rw [List.drop_drop, hE]
            have hll : (((mb ms).take cut).drop (E ms (k + 1))).length = cut - (E ms k + wN z) := by
              have := HL.out
              rw [List.length_drop, List.length_take, hE]
              omega
            have HM := Lib.hid (fun u (hu : Rd u p (((mb ms).take cut).drop (E ms k)) 0) => mreads_ok x z p _ u hx' hu hal hnum)
            rw [hdd] at HM
            have hE' : E ms (k + 1) ≤ cut := by omega
            have HE := Lib.hid hE
            have HLL := Lib.hid hll
            have hbe : (E ms k : Int) + (wN z : Int) ≤ (cut : Int) := by omega
            clear ha hal hnum hdd hll hE hx'
            generalize hLn : ((mb ms).take cut).drop (E ms (k + 1)) = L at HM HLL
            have HLn := Lib.hid hLn
            clear hLn hst
            go_wp2_with fail
            refine (HW.out _).mono ?_
            rintro e w3 ⟨rfl, hB3⟩
            have g0 : w3.cell? ⟨wr.heap.size, 0, none⟩ = some (.int .u64 x) := (hB3.cell (p := ⟨wr.heap.size, 0, none⟩) (by simp)).trans (by rw [World.cell?_alloc_at _ _ _ _ rfl]; rfl)
            have g1 : w3.cell? ⟨wr.heap.size, 1, none⟩ = some (.int .i64 z) := (hB3.cell (p := ⟨wr.heap.size, 1, none⟩) (by simp)).trans (by rw [World.cell?_alloc_at _ _ _ _ rfl]; rfl)
            have hR3 := (hRd.alloc (.cells #[.int .u64 x, .int .i64 z] 53)).below hB3 (by have := hRd.lt; simp; omega)
            have b3 : Below w.heap.size w w3 := (hBq.alloc hBq.size _).trans (hB3.mono (by have := hBq.size; simp; omega))
            clear hB3 hRd
            go_wp2_with fail
            refine (HM.out w3 hR3).mono ?_
            rintro e w4 ⟨rfl, hR4, hG4⟩
            have b4 : Below w.heap.size w w4 := b3.grown hG4 b3.size (by rintro j ⟨rfl⟩; exact hpw)
            have HErr := Lib.hid (err_any p L 0 w4 hR4)
            have HLeft : Hid (Calls Try.prog 25 #[.pointer (some ⟨p, 0, none⟩)] w4 fun e w' => e = .returned (.int .i64 ((cut : Int) - ((E ms k : Int) + (wN z : Int)))) ∧ w4 = w') := by
              have h := left_any p L 0 w4 hR4
              rw [HLL.out] at h
              have e : ((cut - (E ms k + wN z) : Nat) : Int) = (cut : Int) - ((E ms k : Int) + (wN z : Int)) := by omega
              rw [e] at h
              exact Lib.hid h
            go_wp2_with fail
            refine HErr.out.mono ?_
            rintro e w' ⟨rfl, rfl⟩
            go_wp2_with fail
            refine HLeft.out.mono ?_
            rintro e w' ⟨rfl, rfl⟩
            have hAt' : At ms cut p (k + 1) w4 := ⟨L, 0, hR4, .inl ⟨rfl, hE', HLn.out.symm⟩⟩
            clear HErr HLeft HM hR3 hR4 hG4 b3 g0 g1
            go_wp2
            go_roundw
            case rel => exact ⟨k + 1, by omega, by go_num, by rw [HE.out]; go_num, hAt', b4⟩
            case measure => simp [intOf]; omega
          · have hbad : Bad st l.length (wN z) 7 := by
              rcases hst with ⟨rfl, h1, rfl⟩ | ⟨rfl, _⟩
              · refine .inr (.inr ⟨rfl, ?_, rfl⟩)
                have := HL.out
                simp only [List.length_drop, List.length_take]
                omega
              · exact .inl ⟨by omega, rfl⟩
            have HM := Lib.hid (fun u (hu : Rd u p l st) => mreads_bad z p l st 7 u hu hbad)
            have hE' : cut < E ms (k + 1) := by omega
            have HE := Lib.hid hE
            have hbe : ¬ ((E ms k : Int) + (wN z : Int) ≤ (cut : Int)) := by omega
            clear hE hx' hst hbad hend
            go_wp2_with fail
            refine (HW.out _).mono ?_
            rintro e w3 ⟨rfl, hB3⟩
            have g0 : w3.cell? ⟨wr.heap.size, 0, none⟩ = some (.int .u64 x) := (hB3.cell (p := ⟨wr.heap.size, 0, none⟩) (by simp)).trans (by rw [World.cell?_alloc_at _ _ _ _ rfl]; rfl)
            have g1 : w3.cell? ⟨wr.heap.size, 1, none⟩ = some (.int .i64 z) := (hB3.cell (p := ⟨wr.heap.size, 1, none⟩) (by simp)).trans (by rw [World.cell?_alloc_at _ _ _ _ rfl]; rfl)
            have hR3 := (hRd.alloc (.cells #[.int .u64 x, .int .i64 z] 53)).below hB3 (by have := hRd.lt; simp; omega)
            have b3 : Below w.heap.size w w3 := (hBq.alloc hBq.size _).trans (hB3.mono (by have := hBq.size; simp; omega))
            clear hB3 hRd
            have HLeft := Lib.hid (left_any p l st w3 hR3)
            go_wp2_with fail
            refine HLeft.out.mono ?_
            rintro e w' ⟨rfl, rfl⟩
            go_wp2_with fail
            refine (HM.out _ (hR3.alloc _)).mono ?_
            rintro e w4 ⟨rfl, hR4, hG4⟩
            have b4 : Below w.heap.size w w4 := (b3.alloc b3.size _).grown hG4 (by have := b3.size; simp; omega) (by rintro j ⟨rfl⟩; exact hpw)
            have HErr := Lib.hid (err_any p l 7 w4 hR4)
            have HLeft2 := Lib.hid (left_any p l 7 w4 hR4)
            go_wp2_with fail
            refine HErr.out.mono ?_
            rintro e w' ⟨rfl, rfl⟩
            go_wp2_with fail
            refine HLeft2.out.mono ?_
            rintro e w' ⟨rfl, rfl⟩
            have hAt' : At ms cut p (k + 1) w4 := ⟨l, 7, hR4, .inr ⟨rfl, hE'⟩⟩
            clear HErr HLeft HLeft2 HM hR3 hR4 hG4 b3 g0 g1
            go_wp2
            go_roundw
            case rel => exact ⟨k + 1, by omega, by go_num, by rw [HE.out]; go_num, hAt', b4⟩
            case measure => simp [intOf]; omega
        · obtain rfl : n = k := by omega
          have hEm : E ms n = m := by
            unfold E
            rw [List.take_of_length_le (by omega)]
            exact HL.out
          have hWh : Hid (Calls Try.prog 27 #[.pointer (some ⟨p, 0, none⟩)] wr fun e w' => e = .returned (.bool (decide (cut = m))) ∧ wr = w') := by
            have h := whole_any p l st wr hRd
            have e : wholeB st l.length = decide (cut = m) := by
              rcases hst with ⟨rfl, h1, rfl⟩ | ⟨rfl, h1⟩
              · have e1 : cut = m := by omega
                have := HL.out
                simp [wholeB, e1]
                omega
              · have e1 : ¬ cut = m := by omega
                simp [wholeB, e1]
            rw [e] at h
            exact Lib.hid h
          clear hst hRd
          by_cases hcm2 : cut = m
          · have e1 : decide (cut = m) = true := decide_eq_true hcm2
            rw [e1] at hWh
            subst hcm2
            go_wp2_with fail
            refine hWh.out.mono ?_
            rintro e w' ⟨rfl, rfl⟩
            go_wp2
            go_ret
            exact ⟨rfl, hBq⟩
          · have e1 : decide (cut = m) = false := decide_eq_false hcm2
            rw [e1] at hWh
            have e2 : ((cut : Int) == (m : Int)) = false := by simp only [beq_eq_false_iff_ne, ne_eq]; omega
            go_wp2_with fail
            refine hWh.out.mono ?_
            rintro e w' ⟨rfl, rfl⟩
            go_wp2
            go_ret
            exact ⟨rfl, hBq⟩

set_option maxRecDepth 100000 in
theorem lifted (os : Os) (started : os.Started) (H : Type) (enc : TypeId × Value → H) :
    ReturnsInHanded {} Try.checked os 6 .any (Rows.octetCutsSpec.pre6 enc Try.prog Try.f6 Rows.octetCutsRow.domain false) (Rows.octetCutsSpec.post enc Try.prog Try.f6 false true false false) := by
  refine returnsInHanded_of_change (C := Try.checked) own started (by kernel_rfl) Try.func6
    (ChangeSpec.witness6 (enc := enc) (C := Try.checked) false ⟨#[], #[.slice none 0 0, .int .i64 0], []⟩ 8 (by kernel_rfl) (by kernel_rfl) (by kernel_rfl) (by kernel_rfl)) ?_
  intro W base args ds gs before hval0 hW hcnd _
  have hval : ∀ (j : Nat) t v, Try.f6.params[j]? = some t → args[j]? = some v → Value.okWide Try.prog W .any base t v := hval0
  have hW' := hW
  obtain ⟨p, q, hA0, hV, rfl, hfz, hnd⟩ := hW
  have hA : DataW.TrodAll enc Try.prog W 0 (fun _ => true) true Try.f6.params.toList args.toList ds p := hA0
  rw [Try.params6] at hA hval
  obtain ⟨v0, v1, d0, d1, p0, p1, rfl, rfl, rfl, h0, h1⟩ := trodAll_two hA
  obtain ⟨rfl, rfl⟩ := trodVars_none hV
  obtain ⟨t, rfl, rfl, rfl, wt⟩ := open_int Try.underlying3 (hval 1 3 v1 rfl rfl) h1
  obtain ⟨A0, n, c, rfl⟩ := okWide_slice Try.underlying51 (hval 0 51 v0 rfl rfl)
  clear hA0 hval0
  simp only [List.append_nil] at hW'
  have hlt : ∀ x ∈ p0, x.block < W.heap.size := fun x hx => hW'.lt x (by simpa using hx)
  obtain ⟨ms, hl, hx, hr⟩ := open_mixeds h0
  have hwk : Calls Try.prog 6 #[.slice A0 n c, .int .i64 t] W fun e w' => e = .returned (.bool true) ∧ Below W.heap.size W w' := by
    by_cases hn : n ≤ 200
    · exact walk A0 n c ms t W hl hr hx hn
    · exact walk_big A0 n c t W (by omega)
  refine hwk.mono fun e W' ⟨he, hb⟩ => ?_
  subst he
  exact ⟨_, rfl, post_of_below (pa := p0 ++ []) (pv := []) hW' (fun _ _ _ => trodAll_mk1 (shut_bool Try.underlying4 _)) (fun sp hsp => trodAll_mk2 (arg_stays (by kernel_rfl) (of_decide_eq_true (by kernel_rfl)) h0 hb hlt (fun x hx => hsp x (by simpa using hx))) (shut_int Try.underlying3 wt)) (fun _ _ => rfl) (by simp)
    hb (ok_one (by kernel_rfl) rfl (okWide_bool_mk Try.underlying4 _))⟩

theorem proved : Rows.OctetCutsSaid :=
  OpenClaim.holds_of_wide 6 Try.f6 rfl rfl rfl rfl rfl rfl rfl ⟨rfl, rfl, rfl, rfl, rfl⟩ rfl rfl rfl rfl rfl (by kernel_rfl) Try.func6 (by kernel_rfl)
    (of_decide_eq_true (by kernel_rfl)) (by unfold Func.isWrapper; first | (rw [if_pos (by decide +kernel)]; kernel_rfl) | (rw [if_neg (by decide +kernel)]; exact ⟨rfl, rfl⟩))
    (fun os started H enc _ => lifted os started H enc)

end Go.Proofs.Ytifclmmfnfppiaa.octetCuts
