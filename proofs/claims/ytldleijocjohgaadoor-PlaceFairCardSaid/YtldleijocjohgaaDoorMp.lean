/-
  The landed mask: checkAll, Check, refused; the library's Or. No statement is proved here.
-/
import Derived.Test.YtldleijocjohgaaDoorMe
namespace Go.Proofs.YtldleijocjohgaaDoor
open Go.RowKit

/-- the first that is not nought -/
def orL : List Int → Int
  | [] => 0
  | a :: t => if a = 0 then orL t else a
theorem or_skip {l : List Int} {k : Nat} {x : Int} (h : l[k]? = some x) (hx : x = 0) : orL (l.drop k) = orL (l.drop (k + 1)) := by
  rw [drop_at h]; exact if_pos hx
theorem or_hit {l : List Int} {k : Nat} {x : Int} (h : l[k]? = some x) (hx : ¬ x = 0) : orL (l.drop k) = x := by
  rw [drop_at h]; exact if_neg hx

set_option maxRecDepth 100000 in
set_option maxHeartbeats 1000000 in
theorem orE_any (A : Option Addr) (n c : Nat) (l : List Int) (w : World) (hR : Reads w w.heap.size 1 A n (l.map fun i => .int .i64 i)) (hn : n ≤ 1000) :
    Calls Tryd.prog 46 #[.slice A n c] w fun e w' => e = .returned (.int .i64 (orL l)) ∧ w = w' := by
  have hl : l.length = n := by have := hR.1; simpa using this
  have HL := Lib.hid hl
  have HR := Lib.hid hR
  generalize hE : orL l = E
  have HE := Lib.hid hE
  clear hR hE hl
  go_enter Tryd.func46, Tryd.ntmps46
  go_wp2_with fail
  go_loopw [8] (fun i wr => ∃ k : Nat, k ≤ n ∧ i = .int .i64 (k : Int) ∧ Hid (orL (l.drop k) = E) ∧ wr = w) (fun i _ => n - (intOf i).toNat)
  case atStart => exact ⟨0, by omega, rfl, Lib.hid (by rw [List.drop_zero]; exact HE.out), rfl⟩
  case round =>
    obtain ⟨k, hk, rfl, HA, rfl⟩ := hrel
    by_cases hlt : k < n
    · obtain ⟨x, hm⟩ := elem_at (l := l) (k := k) (by rw [HL.out]; exact hlt)
      obtain ⟨ad, u, rfl, hb, hu, d0⟩ := HR.out.at_ hlt
      obtain rfl : u = .int .i64 x := by rw [List.getElem?_map, hm] at hu; simpa using hu.symm
      have HT := Lib.hid hm
      clear hm hu
      by_cases hx : x = 0
      · have hz : (x == 0) = true := by simp [hx]
        have HN : Hid (orL (l.drop (k + 1)) = E) := Lib.hid (by rw [← HA.out, or_skip HT.out hx])
        clear hx
        go_wp2
        go_roundw
        case rel => exact ⟨k + 1, by omega, by go_num, HN, by first | rfl | trivial⟩
        case measure => simp [intOf] <;> omega
      · have hz : (x == 0) = false := by simp [hx]
        have HN : Hid (x = E) := Lib.hid (by rw [← HA.out, or_hit HT.out hx])
        clear hx
        go_wp2
        go_ret
        exact ⟨retI HN.out, rfl⟩
    · obtain rfl : n = k := by omega
      have HN : Hid (0 = E) := Lib.hid (by rw [← HA.out, ← HL.out, List.drop_length]; rfl)
      go_wp2
      go_ret
      exact ⟨retI HN.out, rfl⟩

set_option maxRecDepth 100000 in
set_option maxHeartbeats 1000000 in
theorem orC_any (A : Option Addr) (n c : Nat) (l : List Int) (w : World) (hR : Reads w w.heap.size 1 A n (l.map fun i => .int .u32 i)) (hn : n ≤ 1000) :
    Calls Tryd.prog 63 #[.slice A n c] w fun e w' => e = .returned (.int .u32 (orL l)) ∧ w = w' := by
  have hl : l.length = n := by have := hR.1; simpa using this
  have HL := Lib.hid hl
  have HR := Lib.hid hR
  generalize hE : orL l = E
  have HE := Lib.hid hE
  clear hR hE hl
  go_enter Tryd.func63, Tryd.ntmps63
  go_wp2_with fail
  go_loopw [8] (fun i wr => ∃ k : Nat, k ≤ n ∧ i = .int .i64 (k : Int) ∧ Hid (orL (l.drop k) = E) ∧ wr = w) (fun i _ => n - (intOf i).toNat)
  case atStart => exact ⟨0, by omega, rfl, Lib.hid (by rw [List.drop_zero]; exact HE.out), rfl⟩
  case round =>
    obtain ⟨k, hk, rfl, HA, rfl⟩ := hrel
    by_cases hlt : k < n
    · obtain ⟨x, hm⟩ := elem_at (l := l) (k := k) (by rw [HL.out]; exact hlt)
      obtain ⟨ad, u, rfl, hb, hu, d0⟩ := HR.out.at_ hlt
      obtain rfl : u = .int .u32 x := by rw [List.getElem?_map, hm] at hu; simpa using hu.symm
      have HT := Lib.hid hm
      clear hm hu
      by_cases hx : x = 0
      · have hz : (x == 0) = true := by simp [hx]
        have HN : Hid (orL (l.drop (k + 1)) = E) := Lib.hid (by rw [← HA.out, or_skip HT.out hx])
        clear hx
        go_wp2
        go_roundw
        case rel => exact ⟨k + 1, by omega, by go_num, HN, by first | rfl | trivial⟩
        case measure => simp [intOf] <;> omega
      · have hz : (x == 0) = false := by simp [hx]
        have HN : Hid (x = E) := Lib.hid (by rw [← HA.out, or_hit HT.out hx])
        clear hx
        go_wp2
        go_ret
        exact ⟨retI HN.out, rfl⟩
    · obtain rfl : n = k := by omega
      have HN : Hid (0 = E) := Lib.hid (by rw [← HA.out, ← HL.out, List.drop_length]; rfl)
      go_wp2
      go_ret
      exact ⟨retI HN.out, rfl⟩

/-- a row that was laid as a block -/
theorem reads_new (w : World) (t : TypeId) (size n : Nat) (xs : List Value) (hn : xs.length = n * size) : Reads (w.alloc (.cells xs.toArray t)) (w.alloc (.cells xs.toArray t)).heap.size size (some ⟨w.heap.size, 0, none⟩) n xs := by
  have K := Blk.new w t xs.toArray
  refine ⟨hn, fun _ => ⟨_, rfl, K.lt, fun j u hj => ?_⟩⟩
  have e : (⟨w.heap.size, 0, none⟩ : Addr).add j = ⟨w.heap.size, j, none⟩ := by unfold Addr.add; by_cases hj0 : j = 0 <;> simp [hj0]
  rw [e, K.cell j]
  simpa using hj
theorem right_no {x y : Int} (h : ¬ (x < 256 ∧ y < 256 ∧ 0 < x)) : rightM (x, y) = false := by
  unfold rightM
  cases h1 : decide (x < 256) <;> cases h2 : decide (y < 256) <;> cases h3 : decide (0 < x) <;> simp at h1 h2 h3 ⊢
  omega
theorem right_yes {x y : Int} (h1 : x < 256) (h2 : y < 256) (h3 : 0 < x) : rightM (x, y) = true := by unfold rightM; simp [h1, h2, h3]

/-- may all masks be? -/
def allE (l : List (Int × Int)) : Int := if l.all rightM = true then 0 else 170
set_option maxRecDepth 100000 in
set_option maxHeartbeats 4000000 in
theorem checkall_any (A : Option Addr) (n c : Nat) (l : List (Int × Int)) (w : World) (hR : Reads w w.heap.size 2 A n (mvs l)) (hU : ∀ (k : Nat) (m : Int × Int), l[k]? = some m → UM m) (hn : n ≤ 1000) :
    Calls Tryd.prog 58 #[.slice A n c] w (Said (.int .i64 (allE l)) w) := by
  have HL := Lib.hid (masks_len hR)
  have HR := Lib.hid hR
  have HU := Lib.hid hU
  generalize hE : allE l = E
  have HE := Lib.hid hE
  clear hR hE hU
  go_enter Tryd.func58, Tryd.ntmps58
  go_wp2_with fail
  go_loopw [7] (fun i wr => ∃ k : Nat, k ≤ n ∧ i = .int .i64 (k : Int) ∧ Hid ((l.take k).all rightM = true) ∧ Below w.heap.size w wr) (fun i _ => n - (intOf i).toNat)
  case atStart => exact ⟨0, by omega, rfl, Lib.hid (by rw [List.take_zero]; rfl), Below.refl _ _⟩
  case round =>
    obtain ⟨k, hk, rfl, HA, hB⟩ := hrel
    by_cases hlt : k < n
    · obtain ⟨⟨x, y⟩, hm⟩ := elem_at (l := l) (k := k) (by rw [HL.out]; exact hlt)
      obtain ⟨ad, rfl, hb, d0, d1⟩ := mask_at (HR.out.below hB) hm
      obtain ⟨⟨x0, x1⟩, y0, y1⟩ := HU.out k _ hm
      have HX := Lib.hid (fun u => ccheck_any x u x0 x1)
      have HY := Lib.hid (fun u => ccheck_any y u y0 y1)
      have HT := Lib.hid hm
      have hsz := hB.size
      have B2 := hB.alloc hsz (.cells #[.int .u32 x, .int .u32 y] 41)
      clear hm hB
      by_cases hz : x = 0
      · have hz2 : (x == 0) = true := by simp [hz]
        have HN := Lib.hid (all_right_no HT.out (right_no (by omega)))
        clear hz x0 x1 y0 y1 HX HY
        go_wp2
        go_ret
        exact ⟨retI (by rw [← HE.out]; unfold allE; rw [HN.out]; rfl), B2⟩
      · have hz2 : (x == 0) = false := by simp [hz]
        by_cases hx : x < 256
        · rw [show chkV x = 0 from if_pos hx] at HX
          by_cases hy : y < 256
          · rw [show chkV y = 0 from if_pos hy] at HY
            have HN := Lib.hid (all_right_step HT.out (right_yes hx hy (by omega)) HA.out)
            clear hz x0 x1 y0 y1 hx hy
            go_wp2_with fail
            refine (HX.out _).mono ?_
            rintro e w2 ⟨rfl, rfl⟩
            go_wp2_with fail
            refine (HY.out _).mono ?_
            rintro e w2 ⟨rfl, rfl⟩
            go_wp2
            go_roundw
            case rel => exact ⟨k + 1, by omega, by go_num, HN, B2⟩
            case measure => simp [intOf] <;> omega
          · rw [show chkV y = 140 from if_neg hy] at HY
            have HN := Lib.hid (all_right_no HT.out (right_no (by omega)))
            clear hz x0 x1 y0 y1 hx hy
            go_wp2_with fail
            refine (HX.out _).mono ?_
            rintro e w2 ⟨rfl, rfl⟩
            go_wp2_with fail
            refine (HY.out _).mono ?_
            rintro e w2 ⟨rfl, rfl⟩
            go_wp2
            go_ret
            exact ⟨retI (by rw [← HE.out]; unfold allE; rw [HN.out]; rfl), B2⟩
        · rw [show chkV x = 140 from if_neg hx] at HX
          have HN := Lib.hid (all_right_no HT.out (right_no (by omega)))
          clear hz x0 x1 y0 y1 hx
          go_wp2_with fail
          refine (HX.out _).mono ?_
          rintro e w2 ⟨rfl, rfl⟩
          go_wp2
          go_ret
          exact ⟨retI (by rw [← HE.out]; unfold allE; rw [HN.out]; rfl), B2⟩
    · obtain rfl : n = k := by omega
      have hall : Hid (l.all rightM = true) := Lib.hid (by
        have := HA.out
        rwa [show l.take n = l by rw [← HL.out]; exact List.take_length] at this)
      go_wp2
      go_ret
      exact ⟨retI (by rw [← HE.out]; unfold allE; rw [hall.out]; rfl), hB⟩

/-- a mask that was laid as a row of one -/
theorem reads_one (w : World) (x y : Int) : Reads (w.alloc (.cells #[.int .u32 x, .int .u32 y] 41)) (w.alloc (.cells #[.int .u32 x, .int .u32 y] 41)).heap.size 2 (some ⟨w.heap.size, 0, none⟩) 1 (mvs [(x, y)]) := reads_new w 41 2 1 [.int .u32 x, .int .u32 y] rfl
theorem one_um {x y : Int} (hx : U32 x) (hy : U32 y) : ∀ (k : Nat) (m : Int × Int), [(x, y)][k]? = some m → UM m := fun k m hk => by
  match k, hk with
  | 0, hk => simp at hk; subst hk; exact ⟨hx, hy⟩
  | k + 1, hk => simp at hk

theorem checkall_one (u : World) (g : Nat) (hg : g = u.heap.size) (x y : Int) (hx : U32 x) (hy : U32 y) : Calls Tryd.prog 58 #[.slice (some ⟨g, 0, none⟩) 1 1] (u.alloc (.cells #[.int .u32 x, .int .u32 y] 41)) (Said (.int .i64 (if rightM (x, y) = true then 0 else 170)) (u.alloc (.cells #[.int .u32 x, .int .u32 y] 41))) := by
  subst hg
  have h := checkall_any (some ⟨u.heap.size, 0, none⟩) 1 1 [(x, y)] (u.alloc (.cells #[.int .u32 x, .int .u32 y] 41)) (reads_one u x y) (one_um hx hy) (by omega)
  have hv : allE [(x, y)] = if rightM (x, y) = true then 0 else 170 := by unfold allE; simp
  rwa [hv] at h

set_option maxRecDepth 100000 in
set_option maxHeartbeats 1000000 in
theorem check_any (x y : Int) (w : World) (hx : U32 x) (hy : U32 y) : Calls Tryd.prog 61 #[.agg #[.int .u32 x, .int .u32 y]] w (Said (.int .i64 (if rightM (x, y) = true then 0 else 170)) w) := by
  have B1 : Below w.heap.size w ((w.alloc (.cells #[.int .u32 x, .int .u32 y] 41)).alloc (.cells #[.int .u32 x, .int .u32 y] 41)) := ((Below.refl _ w).alloc (Nat.le_refl _) _).alloc (by simp) _
  have HC := Lib.hid (fun (u : World) (g : Nat) (hg : g = u.heap.size) => checkall_one u g hg x y hx hy)
  generalize (if rightM (x, y) = true then (0 : Int) else 170) = E at *
  have HB := Lib.hid B1
  clear hx hy B1
  go_enter Tryd.func61, Tryd.ntmps61
  go_wp2_with fail
  refine (HC.out _ _ (by simp)).mono ?_
  rintro e w2 ⟨rfl, h2⟩
  go_wp2
  go_ret
  exact ⟨rfl, HB.out.trans (h2.mono HB.out.size)⟩

theorem mcheck_ok : MCheckOk := fun x y u hx hy => check_any x y u hx hy

theorem err_cases (l : List (Int × Int)) (s : Int) : errM l s = if orL [allE l, chkV s] = 0 then (if 16 < l.length then 3 else 0) else orL [allE l, chkV s] := by
  unfold errM allE chkV orL orL
  by_cases h1 : l.all rightM = true
  · rw [if_pos h1, if_pos h1]
    by_cases h2 : s < 256
    · rw [if_pos h2, if_pos h2]; simp [orL]
    · rw [if_neg h2, if_neg h2]; simp
  · rw [if_neg h1, if_neg h1]; simp

set_option maxRecDepth 100000 in
set_option maxHeartbeats 4000000 in
theorem refused_any (A : Option Addr) (n c : Nat) (l : List (Int × Int)) (s : Int) (w : World) (hR : Reads w w.heap.size 2 A n (mvs l)) (hU : ∀ (k : Nat) (m : Int × Int), l[k]? = some m → UM m) (hn : n ≤ 1000) (hs : U32 s) :
    Calls Tryd.prog 44 #[.int .u32 s, .slice A n c] w (Said (.int .i64 (errM l s)) w) := by
  have HL := Lib.hid (masks_len hR)
  have HC := Lib.hid (checkall_any A n c l w hR hU hn)
  have HS := Lib.hid (fun u => ccheck_any s u hs.1 hs.2)
  rw [err_cases]
  generalize allE l = a at *
  generalize chkV s = b at *
  have HO := Lib.hid (fun (u : World) => orE_any _ 2 2 [a, b] _ (reads_new u 27 1 2 [.int .i64 a, .int .i64 b] rfl) (by omega))
  generalize orL [a, b] = o at *
  clear hR hU hs
  by_cases ho : o = 0
  · rw [if_pos ho]
    have ho2 : (o == 0) = true := by simp [ho]
    by_cases h16 : 16 < n
    · rw [if_pos (by rw [HL.out]; exact h16)]
      have q : decide ((16 : Int) < (n : Int)) = true := decide_eq_true (by omega)
      clear ho h16
      go_enter Tryd.func44, Tryd.ntmps44
      go_wp2_with fail
      refine HC.out.mono ?_
      rintro e w2 ⟨rfl, h2⟩
      go_wp2_with fail
      refine (HS.out _).mono ?_
      rintro e w3 ⟨rfl, rfl⟩
      have B2 := Lib.hid (h2.alloc h2.size (.cells #[.int .i64 a, .int .i64 b] 27))
      clear h2
      go_wp2_with fail
      refine (HO.out _).mono ?_
      rintro e w3 ⟨rfl, rfl⟩
      go_wp2
      go_ret
      exact ⟨rfl, B2.out⟩
    · rw [if_neg (by rw [HL.out]; exact h16)]
      have q : decide ((16 : Int) < (n : Int)) = false := decide_eq_false (by omega)
      have HO0 := Lib.hid ho
      clear ho h16
      go_enter Tryd.func44, Tryd.ntmps44
      go_wp2_with fail
      refine HC.out.mono ?_
      rintro e w2 ⟨rfl, h2⟩
      go_wp2_with fail
      refine (HS.out _).mono ?_
      rintro e w3 ⟨rfl, rfl⟩
      have B2 := Lib.hid (h2.alloc h2.size (.cells #[.int .i64 a, .int .i64 b] 27))
      clear h2
      go_wp2_with fail
      refine (HO.out _).mono ?_
      rintro e w3 ⟨rfl, rfl⟩
      go_wp2
      go_ret
      exact ⟨retI HO0.out, B2.out⟩
  · rw [if_neg ho]
    have ho2 : (o == 0) = false := by simp [ho]
    clear ho
    go_enter Tryd.func44, Tryd.ntmps44
    go_wp2_with fail
    refine HC.out.mono ?_
    rintro e w2 ⟨rfl, h2⟩
    go_wp2_with fail
    refine (HS.out _).mono ?_
    rintro e w3 ⟨rfl, rfl⟩
    have B2 := Lib.hid (h2.alloc h2.size (.cells #[.int .i64 a, .int .i64 b] 27))
    clear h2
    go_wp2_with fail
    refine (HO.out _).mono ?_
    rintro e w3 ⟨rfl, rfl⟩
    go_wp2
    go_ret
    exact ⟨rfl, B2.out⟩

end Go.Proofs.YtldleijocjohgaaDoor
