/-
  FracOrder's walk, on what is asked of the landed calls.
-/
import Derived.Test.YtodhkdaipmeblaaFs
import Derived.Deep.DeepCutAuto
import Derived.Deep.RegionHeld3
namespace Go.Proofs.Ytodhkdaipmeblaa
open Go.RowKit

/-- three fractions in memory -/
def K3 (g : Nat) (t : TypeId) (A B C : Array Value) (w : World) : Prop := Blk w g t A ∧ Blk w (g + 1) t B ∧ Blk w (g + 1 + 1) t C
theorem K3.below {g : Nat} {t : TypeId} {A B C : Array Value} {w w' : World} (h : K3 g t A B C w) (hb : Below w.heap.size w w') : K3 g t A B C w' := ⟨h.1.below hb h.1.lt, h.2.1.below hb h.2.1.lt, h.2.2.below hb h.2.2.lt⟩
theorem K3.alloc {g : Nat} {t : TypeId} {A B C : Array Value} {w : World} (h : K3 g t A B C w) (o : Obj) : K3 g t A B C (w.alloc o) := ⟨h.1.alloc o, h.2.1.alloc o, h.2.2.alloc o⟩
theorem Blk.three {w : World} {g : Nat} {t : TypeId} {a b c : Value} (h : Blk w g t #[a, b, c]) : w.cell? ⟨g, 0, none⟩ = some a ∧ w.cell? ⟨g, 1, none⟩ = some b ∧ w.cell? ⟨g, 2, none⟩ = some c := ⟨h.cell 0, h.cell 1, h.cell 2⟩
theorem K3.cells {g : Nat} {t : TypeId} {a b c d e f i j k : Value} {w : World} (h : K3 g t #[a, b, c] #[d, e, f] #[i, j, k] w) :
    (w.cell? ⟨g, 0, none⟩ = some a ∧ w.cell? ⟨g, 1, none⟩ = some b ∧ w.cell? ⟨g, 2, none⟩ = some c) ∧ (w.cell? ⟨g + 1, 0, none⟩ = some d ∧ w.cell? ⟨g + 1, 1, none⟩ = some e ∧ w.cell? ⟨g + 1, 2, none⟩ = some f) ∧ (w.cell? ⟨g + 1 + 1, 0, none⟩ = some i ∧ w.cell? ⟨g + 1 + 1, 1, none⟩ = some j ∧ w.cell? ⟨g + 1 + 1, 2, none⟩ = some k) :=
  ⟨h.1.three, h.2.1.three, h.2.2.three⟩
theorem K3.store {g : Nat} {t : TypeId} {A C : Array Value} {d e f u : Value} {w : World} (h : K3 g t A #[d, e, f] C w) : K3 g t A #[d, e, u] C (w.setCell ⟨g + 1, 2, none⟩ u) := by
  refine ⟨h.1.far (by show g ≠ g + 1; omega) u, ?_, h.2.2.far (by show g + 1 + 1 ≠ g + 1; omega) u⟩
  have := h.2.1.set_ 2 u
  simpa using this

theorem cmp_trans {N x M y P z : Nat} (hy : 0 < y) (h1 : cmpW (N * y) (M * x) ≤ 0) (h2 : cmpW (M * z) (P * y) ≤ 0) : ¬ 0 < cmpW (N * z) (P * x) := by
  have le : ∀ {a b : Nat}, cmpW a b ≤ 0 → a ≤ b := fun {a b} h => by
    rcases Nat.lt_or_ge b a with hh | hh
    · rw [cmpW_gt hh] at h; omega
    · exact hh
  have l1 := Nat.mul_le_mul_right z (le h1)
  have l2 := Nat.mul_le_mul_right x (le h2)
  have e1 : N * y * z = N * z * y := by rw [Nat.mul_assoc, Nat.mul_comm y z, ← Nat.mul_assoc]
  have e2 : M * x * z = M * z * x := by rw [Nat.mul_assoc, Nat.mul_comm x z, ← Nat.mul_assoc]
  have e3 : P * y * x = P * x * y := by rw [Nat.mul_assoc, Nat.mul_comm y x, ← Nat.mul_assoc]
  have l3 : N * z ≤ P * x := Nat.le_of_mul_le_mul_right (show N * z * y ≤ P * x * y by omega) hy
  rcases Nat.lt_or_ge (N * z) (P * x) with hh | hh
  · rw [cmpW_lt hh]; omega
  · rw [cmpW_eq (by omega)]; omega
theorem cmp_add {N M x n : Nat} : cmpW ((N + n) * x) ((M + n) * x) = cmpW (N * x) (M * x) := by
  rw [Nat.add_mul, Nat.add_mul]
  rcases Nat.lt_trichotomy (N * x) (M * x) with h | h | h
  · rw [cmpW_lt h, cmpW_lt (by omega)]
  · rw [cmpW_eq h, cmpW_eq (by omega)]
  · rw [cmpW_gt h, cmpW_gt (by omega)]
theorem added (N x n : Nat) (hr : rightN N x = true) : ∃ sh sl sx : Nat, ∃ c1 : Int, fe (addR N x n) = .tuple #[.agg (fr sh sl sx), .int .i64 c1] ∧ (c1 = 131 ∨ (c1 = 0 ∧ N + n < 2 ^ 100 ∧ sx = x ∧ N + n = sh * 2 ^ 64 + sl ∧ sl < 2 ^ 64)) := by
  by_cases hs : N + n < 2 ^ 100
  · obtain ⟨a, b, e1, e2, e3⟩ := halves (N + n) (by omega)
    refine ⟨a, b, x, 0, ?_, .inr ⟨rfl, hs, rfl, e1, e3⟩⟩
    unfold addR
    rw [if_pos hr, if_pos hs, e1, fe_some e3]
  · refine ⟨0, 0, 0, 131, ?_, .inl rfl⟩
    unfold addR
    rw [if_pos hr, if_neg hs, fe_none]

set_option maxHeartbeats 8000000 in
set_option maxRecDepth 100000 in
theorem order_walk (HCk : CheckOk) (HCo : CompareOk) (HAd : AddOk) (HLe : LessOk) (h l x g j y i o z : Nat) (w : World) (hh : h < 2 ^ 64) (hl : l < 2 ^ 64) (hx : x < 2 ^ 64) (hg : g < 2 ^ 64) (hj : j < 2 ^ 64) (hy : y < 2 ^ 64) (hi : i < 2 ^ 64) (ho : o < 2 ^ 64) (hz : z < 2 ^ 64)
    (hk : ∀ u, Calls Try.prog 9 #[] u (Said (.bool true) u)) :
    Calls Try.prog 6 #[.agg (fr h l x), .agg (fr g j y), .agg (fr i o z)] w (Said (.bool true) w) := by
  obtain ⟨N, hN⟩ : ∃ N, h * 2 ^ 64 + l = N := ⟨_, rfl⟩
  obtain ⟨M, hM⟩ : ∃ M, g * 2 ^ 64 + j = M := ⟨_, rfl⟩
  obtain ⟨P, hP⟩ : ∃ P, i * 2 ^ 64 + o = P := ⟨_, rfl⟩
  have hN2 : N < 2 ^ 128 := by omega
  have hM2 : M < 2 ^ 128 := by omega
  have hP2 : P < 2 ^ 128 := by omega
  have eN : ∀ x, fq N x = fr h l x := fun x => by rw [← hN]; exact fq_of hl x
  have eM : ∀ x, fq M x = fr g j x := fun x => by rw [← hM]; exact fq_of hj x
  have eP : ∀ x, fq P x = fr i o x := fun x => by rw [← hP]; exact fq_of ho x
  have HK := Lib.hid hk
  have ha := fun u => HCk N x u hN2 hx
  have hb := fun u => HCk M y u hM2 hy
  have hc := fun u => HCk P z u hP2 hz
  rw [eN] at ha
  rw [eM] at hb
  rw [eP] at hc
  obtain ⟨b1, b2, b3, b4⟩ := blks3 w 26 26 26 (fr h l x) (fr g j y) (fr i o z)
  have HB := Lib.hid (And.intro (show K3 w.heap.size 26 (fr h l x) (fr g j y) (fr i o z) _ from ⟨b1, b2, b3⟩) b4)
  clear hk b1 b2 b3 b4
  by_cases ra : rightN N x = true
  · rw [if_pos ra] at ha
    have HCa := Lib.hid ha
    by_cases rb : rightN M y = true
    · rw [if_pos rb] at hb
      have HCb := Lib.hid hb
      by_cases rc : rightN P z = true
      · rw [if_pos rc] at hc
        have HCc := Lib.hid hc
        obtain ⟨x1, x2, x3⟩ := rightN_true ra
        obtain ⟨y1, y2, y3⟩ := rightN_true rb
        have rm : rightN M x = true := rightN_yes x1 x2 y3
        have cr : ∀ {A X B Y : Nat}, rightN A X = true → rightN B Y = true → cmpR A X B Y = cmpW (A * Y) (B * X) := fun h1 h2 => if_pos (by rw [h1, h2]; rfl)
        have hab := fun u => HCo N x M y u hN2 hx hM2 hy
        have hba := fun u => HCo M y N x u hM2 hy hN2 hx
        have haa := fun u => HCo N x N x u hN2 hx hN2 hx
        have hbc := fun u => HCo M y P z u hM2 hy hP2 hz
        have hac := fun u => HCo N x P z u hN2 hx hP2 hz
        have hs := fun u => HAd N x o u hN2 hx ho
        have ht := fun u => HAd M x o u hM2 hx ho
        rw [cr ra rb, eN, eM] at hab
        rw [cr rb ra, eN, eM, cmpW_neg] at hba
        rw [cr ra ra, cmpW_eq rfl, eN] at haa
        rw [cr rb rc, eM, eP] at hbc
        rw [cr ra rc, eN, eP] at hac
        have hle := fun h1 h2 => cmp_trans (N := N) (x := x) (M := M) (y := y) (P := P) (z := z) (by omega) h1 h2
        obtain ⟨p, hp⟩ : ∃ p, cmpW (N * y) (M * x) = p := ⟨_, rfl⟩
        obtain ⟨q, hq⟩ : ∃ q, cmpW (M * z) (P * y) = q := ⟨_, rfl⟩
        obtain ⟨r, hr⟩ : ∃ r, cmpW (N * z) (P * x) = r := ⟨_, rfl⟩
        rw [hp] at hab hba hle
        rw [hq] at hbc hle
        rw [hr] at hac hle
        obtain ⟨p', hp'⟩ : ∃ p', -p = p' := ⟨_, rfl⟩
        rw [hp'] at hba
        obtain ⟨sh, sl, sx, c1, es, cs⟩ := added N x o ra
        obtain ⟨th, tl, tx, c2, et, ct⟩ := added M x o rm
        rw [es, eN] at hs
        rw [et, eM] at ht
        have hp1 : -1 ≤ p ∧ p ≤ 1 := by
          rw [← hp]; unfold cmpW
          split
          · omega
          · split <;> omega
        have fin : c1 = 131 ∨ (c1 = 0 ∧ c2 = 131) ∨ (c1 = 0 ∧ c2 = 0 ∧ x = sx ∧ x = tx ∧ (∀ u, Calls Try.prog 21 #[.agg (fr sh sl x), .int .u64 (o : Int)] u (Said (.tuple #[.agg (fr h l x), .int .i64 0]) u)) ∧
            (∀ u, Calls Try.prog 15 #[.agg (fr sh sl x), .agg (fr th tl x)] u (Said (.int .i64 (cmpW (N * x) (M * x))) u)) ∧ (∀ u, Calls Try.prog 15 #[.agg (fr h l x), .agg (fr g j x)] u (Said (.int .i64 (cmpW (N * x) (M * x))) u))) := by
          rcases cs with h0 | ⟨c10, s1, s2, s3, s4⟩
          · exact .inl h0
          · rcases ct with h0 | ⟨c20, t1, t2, t3, t4⟩
            · exact .inr (.inl ⟨c10, h0⟩)
            · have rs := rightN_yes x1 x2 s1
              have rt := rightN_yes x1 x2 t1
              have es : fq (N + o) x = fr sh sl x := by rw [s3]; exact fq_of s4 x
              have et : fq (M + o) x = fr th tl x := by rw [t3]; exact fq_of t4 x
              refine .inr (.inr ⟨c10, c20, s2.symm, t2.symm, fun u => ?_, fun u => ?_, fun u => ?_⟩)
              · have := HLe (N + o) x o u (by omega) hx ho
                rw [es, show lessR (N + o) x o = (N, x, 0) by unfold lessR; rw [if_pos rs, Nat.add_sub_cancel], ← hN, fe_some hl] at this
                exact this
              · have := HCo (N + o) x (M + o) x u (by omega) hx (by omega) hx
                rw [es, et, cr rs rt, cmp_add] at this
                exact this
              · have := HCo N x M x u hN2 hx hM2 hx
                rw [eN, eM, cr ra rm] at this
                exact this
        have HAB := Lib.hid hab
        have HBA := Lib.hid hba
        have HAA := Lib.hid haa
        have HBC := Lib.hid hbc
        have HAC := Lib.hid hac
        have HS := Lib.hid hs
        have HT := Lib.hid ht
        have hpp : IntKind.i64.wrap (-p') = p := by rw [IntKind.wrap_i64]; omega
        generalize cmpW (N * x) (M * x) = t at fin
        have HX := Lib.hid (And.intro hpp (And.intro hle fin))
        clear ha hb hc hab hba haa hbc hac hs ht hpp hle fin es et cs ct hp hq hr hp' hp1 cr ra rb rc rm x1 x2 x3 y1 y2 y3 hN hM hP hN2 hM2 hP2 eN eM eP hh hl hx hg hj hy hi ho hz HCk HCo HAd HLe
        unfold fr at HCa HCb HCc HAB HBA HAA HBC HAC HS HT HX HB
        go_enter Try.func6, Try.ntmps6
        go_wp2_with fail
        refine (HK.out _).mono ?_
        rintro e w1 ⟨rfl, h1⟩
        have k1 := HB.out.1.below h1
        have B1 := HB.out.2.trans (h1.mono HB.out.2.size)
        clear HB h1
        obtain ⟨⟨p0, p1, p2⟩, ⟨p3, p4, p5⟩, ⟨p6, p7, p8⟩⟩ := k1.cells
        go_wp2_with fail
        refine (HCa.out _).mono ?_
        rintro e w21 ⟨rfl, h2⟩
        replace k1 := k1.below h2
        replace B1 := B1.trans (h2.mono B1.size)
        clear h2 p0 p1 p2 p3 p4 p5 p6 p7 p8
        obtain ⟨⟨p0, p1, p2⟩, ⟨p3, p4, p5⟩, ⟨p6, p7, p8⟩⟩ := k1.cells
        go_wp2_with fail
        refine (HCb.out _).mono ?_
        rintro e w22 ⟨rfl, h2⟩
        replace k1 := k1.below h2
        replace B1 := B1.trans (h2.mono B1.size)
        clear h2 p0 p1 p2 p3 p4 p5 p6 p7 p8
        obtain ⟨⟨p0, p1, p2⟩, ⟨p3, p4, p5⟩, ⟨p6, p7, p8⟩⟩ := k1.cells
        go_wp2_with fail
        refine (HCc.out _).mono ?_
        rintro e w23 ⟨rfl, h2⟩
        replace k1 := k1.below h2
        replace B1 := B1.trans (h2.mono B1.size)
        clear h2 p0 p1 p2 p3 p4 p5 p6 p7 p8
        obtain ⟨⟨p0, p1, p2⟩, ⟨p3, p4, p5⟩, ⟨p6, p7, p8⟩⟩ := k1.cells
        go_upto_region 5 with fail
        go_cut [40] (fun s40 wx => s40 = .bool false ∧ K3 w.heap.size 26 #[.int .u64 (h : Int), .int .u64 (l : Int), .int .u64 (x : Int)] #[.int .u64 (g : Int), .int .u64 (j : Int), .int .u64 (y : Int)] #[.int .u64 (i : Int), .int .u64 (o : Int), .int .u64 (z : Int)] wx ∧ Below w.heap.size w wx)
        case first =>
          have hpp := HX.out.1
          clear HX p0 p1 p2 p3 p4 p5 p6 p7 p8
          have hneg := hpp
          clear hpp
          have k1 : K3 w.heap.size 26 #[.int .u64 (h : Int), .int .u64 (l : Int), .int .u64 (x : Int)] #[.int .u64 (g : Int), .int .u64 (j : Int), .int .u64 (y : Int)] #[.int .u64 (i : Int), .int .u64 (o : Int), .int .u64 (z : Int)] w23.drew := k1
          have D1 := B1.drew
          have c1 := k1.cells
          go_region_held3 (fun w' => w'.cell? ⟨w.heap.size, 0, none⟩ = some (.int .u64 (h : Int)) ∧ w'.cell? ⟨w.heap.size, 1, none⟩ = some (.int .u64 (l : Int)) ∧ w'.cell? ⟨w.heap.size, 2, none⟩ = some (.int .u64 (x : Int)) ∧ w'.cell? ⟨w.heap.size + 1, 0, none⟩ = some (.int .u64 (g : Int)) ∧ w'.cell? ⟨w.heap.size + 1, 1, none⟩ = some (.int .u64 (j : Int)) ∧ w'.cell? ⟨w.heap.size + 1, 2, none⟩ = some (.int .u64 (y : Int)))
            (first | exact ⟨c4.1.1, c4.1.2.1, c4.1.2.2, c4.2.1.1, c4.2.1.2.1, c4.2.1.2.2⟩ | exact ⟨c3.1.1, c3.1.2.1, c3.1.2.2, c3.2.1.1, c3.2.1.2.1, c3.2.1.2.2⟩ | exact ⟨c2.1.1, c2.1.2.1, c2.1.2.2, c2.2.1.1, c2.2.1.2.1, c2.2.1.2.2⟩ | exact ⟨c1.1.1, c1.1.2.1, c1.1.2.2, c1.2.1.1, c1.2.1.2.1, c1.2.1.2.2⟩)
            (first
              | (go_at_call 15; (with_reducible refine (HAB.out _).mono ?_); rintro e v0 ⟨rfl, h0⟩; have k2 := k1.below h0; have D2 := D1.trans (h0.mono D1.size); have c2 := k2.cells)
              | (go_at_call 15; (with_reducible refine (HBA.out _).mono ?_); rintro e v1 ⟨rfl, h1⟩; have k3 := k2.below h1; have D3 := D2.trans (h1.mono D2.size); have c3 := k3.cells)
              | (go_at_call 15; (with_reducible refine (HAA.out _).mono ?_); rintro e v2 ⟨rfl, h2⟩; have k4 := k3.below h2; have D4 := D3.trans (h2.mono D3.size); have c4 := k4.cells))
          go_wp2_with fail
          go_meet
          exact ⟨rfl, k4, D4⟩
        case rest =>
          clear k1 B1 p0 p1 p2 p3 p4 p5 p6 p7 p8
          obtain ⟨rfl, k1, B1⟩ := hcut
          obtain ⟨⟨p0, p1, p2⟩, ⟨p3, p4, p5⟩, ⟨p6, p7, p8⟩⟩ := k1.cells
          go_upto_region 7 with fail
          go_cut [56] (fun s56 wx => s56 = .bool false ∧ K3 w.heap.size 26 #[.int .u64 (h : Int), .int .u64 (l : Int), .int .u64 (x : Int)] #[.int .u64 (g : Int), .int .u64 (j : Int), .int .u64 (y : Int)] #[.int .u64 (i : Int), .int .u64 (o : Int), .int .u64 (z : Int)] wx ∧ Below w.heap.size w wx)
          case first =>
            have hle := HX.out.2.1
            clear HX
            by_cases h1 : p ≤ 0
            · have hb1 : decide (p ≤ 0) = true := decide_eq_true h1
              by_cases h2 : q ≤ 0
              · have hb2 : decide (q ≤ 0) = true := decide_eq_true h2
                have hb3 : decide (0 < r) = false := decide_eq_false (by have := hle h1 h2; omega)
                clear hle h1 h2
                go_wp2_with fail
                refine (HAB.out _).mono ?_
                rintro e w24 ⟨rfl, h2⟩
                replace k1 := k1.below h2
                replace B1 := B1.trans (h2.mono B1.size)
                clear h2 p0 p1 p2 p3 p4 p5 p6 p7 p8
                obtain ⟨⟨p0, p1, p2⟩, ⟨p3, p4, p5⟩, ⟨p6, p7, p8⟩⟩ := k1.cells
                go_wp2_with fail
                refine (HBC.out _).mono ?_
                rintro e w25 ⟨rfl, h2⟩
                replace k1 := k1.below h2
                replace B1 := B1.trans (h2.mono B1.size)
                clear h2 p0 p1 p2 p3 p4 p5 p6 p7 p8
                obtain ⟨⟨p0, p1, p2⟩, ⟨p3, p4, p5⟩, ⟨p6, p7, p8⟩⟩ := k1.cells
                go_wp2_with fail
                refine (HAC.out _).mono ?_
                rintro e w26 ⟨rfl, h2⟩
                replace k1 := k1.below h2
                replace B1 := B1.trans (h2.mono B1.size)
                clear h2 p0 p1 p2 p3 p4 p5 p6 p7 p8
                obtain ⟨⟨p0, p1, p2⟩, ⟨p3, p4, p5⟩, ⟨p6, p7, p8⟩⟩ := k1.cells
                go_wp2_with fail
                go_meet
                exact ⟨rfl, k1, B1⟩
              · have hb2 : decide (q ≤ 0) = false := decide_eq_false h2
                clear hle h1 h2
                go_wp2_with fail
                refine (HAB.out _).mono ?_
                rintro e w27 ⟨rfl, h2⟩
                replace k1 := k1.below h2
                replace B1 := B1.trans (h2.mono B1.size)
                clear h2 p0 p1 p2 p3 p4 p5 p6 p7 p8
                obtain ⟨⟨p0, p1, p2⟩, ⟨p3, p4, p5⟩, ⟨p6, p7, p8⟩⟩ := k1.cells
                go_wp2_with fail
                refine (HBC.out _).mono ?_
                rintro e w28 ⟨rfl, h2⟩
                replace k1 := k1.below h2
                replace B1 := B1.trans (h2.mono B1.size)
                clear h2 p0 p1 p2 p3 p4 p5 p6 p7 p8
                obtain ⟨⟨p0, p1, p2⟩, ⟨p3, p4, p5⟩, ⟨p6, p7, p8⟩⟩ := k1.cells
                go_wp2_with fail
                go_meet
                exact ⟨rfl, k1, B1⟩
            · have hb1 : decide (p ≤ 0) = false := decide_eq_false h1
              clear hle h1
              go_wp2_with fail
              refine (HAB.out _).mono ?_
              rintro e w29 ⟨rfl, h2⟩
              replace k1 := k1.below h2
              replace B1 := B1.trans (h2.mono B1.size)
              clear h2 p0 p1 p2 p3 p4 p5 p6 p7 p8
              obtain ⟨⟨p0, p1, p2⟩, ⟨p3, p4, p5⟩, ⟨p6, p7, p8⟩⟩ := k1.cells
              go_wp2_with fail
              go_meet
              exact ⟨rfl, k1, B1⟩
          case rest =>
            clear k1 B1 p0 p1 p2 p3 p4 p5 p6 p7 p8
            obtain ⟨rfl, k1, B1⟩ := hcut
            obtain ⟨⟨p0, p1, p2⟩, ⟨p3, p4, p5⟩, ⟨p6, p7, p8⟩⟩ := k1.cells
            have z5 := k1.2.1.frozen 2
            go_upto_region 10 with fail
            replace k1 := k1.store (u := .int .u64 (x : Int))
            replace B1 := B1.setCell (p := ⟨w.heap.size + 1, 2, none⟩) (by show w.heap.size ≤ w.heap.size + 1; omega) (.int .u64 (x : Int))
            clear z5 p0 p1 p2 p3 p4 p5 p6 p7 p8
            generalize World.setCell _ _ _ = W9 at k1 B1 ⊢
            obtain ⟨⟨p0, p1, p2⟩, ⟨p3, p4, p5⟩, ⟨p6, p7, p8⟩⟩ := k1.cells
            go_wp2_with fail
            refine (HS.out _).mono ?_
            rintro e w30 ⟨rfl, h2⟩
            replace k1 := k1.below h2
            replace B1 := B1.trans (h2.mono B1.size)
            clear h2 p0 p1 p2 p3 p4 p5 p6 p7 p8
            obtain ⟨⟨p0, p1, p2⟩, ⟨p3, p4, p5⟩, ⟨p6, p7, p8⟩⟩ := k1.cells
            go_upto_region 11 with fail
            have j1 := Blk.new w30 26 #[.int .u64 (sh : Int), .int .u64 (sl : Int), .int .u64 (sx : Int)]
            replace k1 := k1.alloc (.cells #[.int .u64 (sh : Int), .int .u64 (sl : Int), .int .u64 (sx : Int)] 26)
            replace B1 := B1.alloc B1.size (.cells #[.int .u64 (sh : Int), .int .u64 (sl : Int), .int .u64 (sx : Int)] 26)
            generalize w30.alloc (.cells #[.int .u64 (sh : Int), .int .u64 (sl : Int), .int .u64 (sx : Int)] 26) = W2 at k1 j1  B1 ⊢
            generalize w30.heap.size = g2 at j1 ⊢
            clear p0 p1 p2 p3 p4 p5 p6 p7 p8
            obtain ⟨⟨p0, p1, p2⟩, ⟨p3, p4, p5⟩, ⟨p6, p7, p8⟩⟩ := k1.cells
            go_wp2_with fail
            refine (HT.out _).mono ?_
            rintro e w31 ⟨rfl, h2⟩
            replace k1 := k1.below h2
            replace j1 := j1.below h2 j1.lt
            replace B1 := B1.trans (h2.mono B1.size)
            clear h2 p0 p1 p2 p3 p4 p5 p6 p7 p8
            obtain ⟨⟨p0, p1, p2⟩, ⟨p3, p4, p5⟩, ⟨p6, p7, p8⟩⟩ := k1.cells
            go_upto_region 12 with fail
            have j2 := Blk.new w31 26 #[.int .u64 (th : Int), .int .u64 (tl : Int), .int .u64 (tx : Int)]
            replace j1 := j1.alloc (.cells #[.int .u64 (th : Int), .int .u64 (tl : Int), .int .u64 (tx : Int)] 26)
            replace k1 := k1.alloc (.cells #[.int .u64 (th : Int), .int .u64 (tl : Int), .int .u64 (tx : Int)] 26)
            replace B1 := B1.alloc B1.size (.cells #[.int .u64 (th : Int), .int .u64 (tl : Int), .int .u64 (tx : Int)] 26)
            generalize w31.alloc (.cells #[.int .u64 (th : Int), .int .u64 (tl : Int), .int .u64 (tx : Int)] 26) = W3 at k1 j2 j1 B1 ⊢
            generalize w31.heap.size = g3 at j2 ⊢
            clear p0 p1 p2 p3 p4 p5 p6 p7 p8
            obtain ⟨⟨p0, p1, p2⟩, ⟨p3, p4, p5⟩, ⟨p6, p7, p8⟩⟩ := k1.cells
            rcases HX.out.2.2 with rfl | ⟨rfl, rfl⟩ | ⟨rfl, rfl, rfl, rfl, hL, hST, hAB2⟩
            · clear HX
              go_wp2
              go_ret
              exact ⟨rfl, B1⟩
            · clear HX
              go_wp2
              go_ret
              exact ⟨rfl, B1⟩
            · clear HX
              have HL := Lib.hid hL
              have HST := Lib.hid hST
              have HAB2 := Lib.hid hAB2
              clear hL hST hAB2
              obtain ⟨r0, r1, r2⟩ := j1.three
              go_wp2_with fail
              refine (HL.out _).mono ?_
              rintro e w32 ⟨rfl, h2⟩
              replace k1 := k1.below h2
              replace j1 := j1.below h2 j1.lt
              replace j2 := j2.below h2 j2.lt
              replace B1 := B1.trans (h2.mono B1.size)
              clear r0 r1 r2 h2 p0 p1 p2 p3 p4 p5 p6 p7 p8
              obtain ⟨⟨p0, p1, p2⟩, ⟨p3, p4, p5⟩, ⟨p6, p7, p8⟩⟩ := k1.cells
              go_upto_region 15 with fail
              have j3 := Blk.new w32 26 #[.int .u64 (h : Int), .int .u64 (l : Int), .int .u64 (x : Int)]
              replace j1 := j1.alloc (.cells #[.int .u64 (h : Int), .int .u64 (l : Int), .int .u64 (x : Int)] 26)
              replace j2 := j2.alloc (.cells #[.int .u64 (h : Int), .int .u64 (l : Int), .int .u64 (x : Int)] 26)
              replace k1 := k1.alloc (.cells #[.int .u64 (h : Int), .int .u64 (l : Int), .int .u64 (x : Int)] 26)
              replace B1 := B1.alloc B1.size (.cells #[.int .u64 (h : Int), .int .u64 (l : Int), .int .u64 (x : Int)] 26)
              generalize w32.alloc (.cells #[.int .u64 (h : Int), .int .u64 (l : Int), .int .u64 (x : Int)] 26) = W4 at k1 j3 j1 j2 B1 ⊢
              generalize w32.heap.size = g4 at j3 ⊢
              clear p0 p1 p2 p3 p4 p5 p6 p7 p8
              obtain ⟨⟨p0, p1, p2⟩, ⟨p3, p4, p5⟩, ⟨p6, p7, p8⟩⟩ := k1.cells
              have k1 : K3 w.heap.size 26 #[.int .u64 (h : Int), .int .u64 (l : Int), .int .u64 (x : Int)] #[.int .u64 (g : Int), .int .u64 (j : Int), .int .u64 (x : Int)] #[.int .u64 (i : Int), .int .u64 (o : Int), .int .u64 (z : Int)] W4.drew := k1
              have D1 := B1.drew
              have c1 := k1.cells
              have i1 : Blk W4.drew g2 26 #[.int .u64 (sh : Int), .int .u64 (sl : Int), .int .u64 (x : Int)] := j1
              have i2 : Blk W4.drew g3 26 #[.int .u64 (th : Int), .int .u64 (tl : Int), .int .u64 (x : Int)] := j2
              have i3 : Blk W4.drew g4 26 #[.int .u64 (h : Int), .int .u64 (l : Int), .int .u64 (x : Int)] := j3
              have d1 := And.intro i1.three (And.intro i2.three i3.three)
              clear p0 p1 p2 p3 p4 p5 p6 p7 p8 j1 j2 j3 B1
              go_region_held3 (fun w' => w'.cell? ⟨w.heap.size, 0, none⟩ = some (.int .u64 (h : Int)) ∧ w'.cell? ⟨w.heap.size, 1, none⟩ = some (.int .u64 (l : Int)) ∧ w'.cell? ⟨w.heap.size, 2, none⟩ = some (.int .u64 (x : Int)) ∧ w'.cell? ⟨w.heap.size + 1, 0, none⟩ = some (.int .u64 (g : Int)) ∧ w'.cell? ⟨w.heap.size + 1, 1, none⟩ = some (.int .u64 (j : Int)) ∧ w'.cell? ⟨w.heap.size + 1, 2, none⟩ = some (.int .u64 (x : Int)) ∧ w'.cell? ⟨g2, 0, none⟩ = some (.int .u64 (sh : Int)) ∧ w'.cell? ⟨g2, 1, none⟩ = some (.int .u64 (sl : Int)) ∧ w'.cell? ⟨g2, 2, none⟩ = some (.int .u64 (x : Int)) ∧ w'.cell? ⟨g3, 0, none⟩ = some (.int .u64 (th : Int)) ∧ w'.cell? ⟨g3, 1, none⟩ = some (.int .u64 (tl : Int)) ∧ w'.cell? ⟨g3, 2, none⟩ = some (.int .u64 (x : Int)) ∧ w'.cell? ⟨g4, 0, none⟩ = some (.int .u64 (h : Int)) ∧ w'.cell? ⟨g4, 1, none⟩ = some (.int .u64 (l : Int)) ∧ w'.cell? ⟨g4, 2, none⟩ = some (.int .u64 (x : Int)))
                (first | exact ⟨c3.1.1, c3.1.2.1, c3.1.2.2, c3.2.1.1, c3.2.1.2.1, c3.2.1.2.2, d3.1.1, d3.1.2.1, d3.1.2.2, d3.2.1.1, d3.2.1.2.1, d3.2.1.2.2, d3.2.2.1, d3.2.2.2.1, d3.2.2.2.2⟩ | exact ⟨c2.1.1, c2.1.2.1, c2.1.2.2, c2.2.1.1, c2.2.1.2.1, c2.2.1.2.2, d2.1.1, d2.1.2.1, d2.1.2.2, d2.2.1.1, d2.2.1.2.1, d2.2.1.2.2, d2.2.2.1, d2.2.2.2.1, d2.2.2.2.2⟩ | exact ⟨c1.1.1, c1.1.2.1, c1.1.2.2, c1.2.1.1, c1.2.1.2.1, c1.2.1.2.2, d1.1.1, d1.1.2.1, d1.1.2.2, d1.2.1.1, d1.2.1.2.1, d1.2.1.2.2, d1.2.2.1, d1.2.2.2.1, d1.2.2.2.2⟩)
                (first
                  | (go_at_call 15; (with_reducible refine (HST.out _).mono ?_); rintro e v0 ⟨rfl, h0⟩; have k2 := k1.below h0; have D2 := D1.trans (h0.mono D1.size); have c2 := k2.cells; have e1 := i1.below h0 i1.lt; have e2 := i2.below h0 i2.lt; have e3 := i3.below h0 i3.lt; have d2 := And.intro e1.three (And.intro e2.three e3.three))
                  | (go_at_call 15; (with_reducible refine (HAB2.out _).mono ?_); rintro e v1 ⟨rfl, h1⟩; have k3 := k2.below h1; have D3 := D2.trans (h1.mono D2.size); have c3 := k3.cells; have f1 := e1.below h1 e1.lt; have f2 := e2.below h1 e2.lt; have f3 := e3.below h1 e3.lt; have d3 := And.intro f1.three (And.intro f2.three f3.three)))
              go_wp2_with fail
              go_ret
              exact ⟨rfl, D3⟩
      · rw [if_neg rc] at hc
        have HCc := Lib.hid hc
        clear ha hb hc ra rb rc hN hM hP hN2 hM2 hP2 eN eM eP hh hl hx hg hj hy hi ho hz HCk HCo HAd HLe
        unfold fr at HCa HCb HCc HB
        go_enter Try.func6, Try.ntmps6
        go_wp2_with fail
        refine (HK.out _).mono ?_
        rintro e w1 ⟨rfl, h1⟩
        have k1 := HB.out.1.below h1
        have B1 := HB.out.2.trans (h1.mono HB.out.2.size)
        clear HB h1
        obtain ⟨⟨p0, p1, p2⟩, ⟨p3, p4, p5⟩, ⟨p6, p7, p8⟩⟩ := k1.cells
        go_wp2_with fail
        refine (HCa.out _).mono ?_
        rintro e w33 ⟨rfl, h2⟩
        replace k1 := k1.below h2
        replace B1 := B1.trans (h2.mono B1.size)
        clear h2 p0 p1 p2 p3 p4 p5 p6 p7 p8
        obtain ⟨⟨p0, p1, p2⟩, ⟨p3, p4, p5⟩, ⟨p6, p7, p8⟩⟩ := k1.cells
        go_wp2_with fail
        refine (HCb.out _).mono ?_
        rintro e w34 ⟨rfl, h2⟩
        replace k1 := k1.below h2
        replace B1 := B1.trans (h2.mono B1.size)
        clear h2 p0 p1 p2 p3 p4 p5 p6 p7 p8
        obtain ⟨⟨p0, p1, p2⟩, ⟨p3, p4, p5⟩, ⟨p6, p7, p8⟩⟩ := k1.cells
        go_wp2_with fail
        refine (HCc.out _).mono ?_
        rintro e w35 ⟨rfl, h2⟩
        replace k1 := k1.below h2
        replace B1 := B1.trans (h2.mono B1.size)
        clear h2 p0 p1 p2 p3 p4 p5 p6 p7 p8
        obtain ⟨⟨p0, p1, p2⟩, ⟨p3, p4, p5⟩, ⟨p6, p7, p8⟩⟩ := k1.cells
        go_wp2
        go_ret
        exact ⟨rfl, B1⟩
    · rw [if_neg rb] at hb
      have HCb := Lib.hid hb
      clear ha hb hc ra rb hN hM hP hN2 hM2 hP2 eN eM eP hh hl hx hg hj hy hi ho hz HCk HCo HAd HLe
      unfold fr at HCa HCb HB
      go_enter Try.func6, Try.ntmps6
      go_wp2_with fail
      refine (HK.out _).mono ?_
      rintro e w1 ⟨rfl, h1⟩
      have k1 := HB.out.1.below h1
      have B1 := HB.out.2.trans (h1.mono HB.out.2.size)
      clear HB h1
      obtain ⟨⟨p0, p1, p2⟩, ⟨p3, p4, p5⟩, ⟨p6, p7, p8⟩⟩ := k1.cells
      go_wp2_with fail
      refine (HCa.out _).mono ?_
      rintro e w36 ⟨rfl, h2⟩
      replace k1 := k1.below h2
      replace B1 := B1.trans (h2.mono B1.size)
      clear h2 p0 p1 p2 p3 p4 p5 p6 p7 p8
      obtain ⟨⟨p0, p1, p2⟩, ⟨p3, p4, p5⟩, ⟨p6, p7, p8⟩⟩ := k1.cells
      go_wp2_with fail
      refine (HCb.out _).mono ?_
      rintro e w37 ⟨rfl, h2⟩
      replace k1 := k1.below h2
      replace B1 := B1.trans (h2.mono B1.size)
      clear h2 p0 p1 p2 p3 p4 p5 p6 p7 p8
      obtain ⟨⟨p0, p1, p2⟩, ⟨p3, p4, p5⟩, ⟨p6, p7, p8⟩⟩ := k1.cells
      go_wp2
      go_ret
      exact ⟨rfl, B1⟩
  · rw [if_neg ra] at ha
    have HCa := Lib.hid ha
    clear ha hb hc ra hN hM hP hN2 hM2 hP2 eN eM eP hh hl hx hg hj hy hi ho hz HCk HCo HAd HLe
    unfold fr at HCa HB
    go_enter Try.func6, Try.ntmps6
    go_wp2_with fail
    refine (HK.out _).mono ?_
    rintro e w1 ⟨rfl, h1⟩
    have k1 := HB.out.1.below h1
    have B1 := HB.out.2.trans (h1.mono HB.out.2.size)
    clear HB h1
    obtain ⟨⟨p0, p1, p2⟩, ⟨p3, p4, p5⟩, ⟨p6, p7, p8⟩⟩ := k1.cells
    go_wp2_with fail
    refine (HCa.out _).mono ?_
    rintro e w38 ⟨rfl, h2⟩
    replace k1 := k1.below h2
    replace B1 := B1.trans (h2.mono B1.size)
    clear h2 p0 p1 p2 p3 p4 p5 p6 p7 p8
    obtain ⟨⟨p0, p1, p2⟩, ⟨p3, p4, p5⟩, ⟨p6, p7, p8⟩⟩ := k1.cells
    go_wp2
    go_ret
    exact ⟨rfl, B1⟩

end Go.Proofs.Ytodhkdaipmeblaa
