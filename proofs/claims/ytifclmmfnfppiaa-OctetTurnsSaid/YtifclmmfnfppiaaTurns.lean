/-
  OctetTurns: of whatever two Mixed numbers: put the other way round, their bytes are the other way round. No condition.
-/
import Derived.Test.YtifclmmfnfppiaaMixed
import Derived.Test.YtifclmmfnfppiaaMixedArg
import Derived.Test.YtifclmmfnfppiaaBytes
import Derived.Deep.RegionHeld3
namespace Go.Proofs.Ytifclmmfnfppiaa.octetTurns
open Go.ChangeShapes Go.WideShapes Go.ChangeAt Go.RowKit

/-- mput_any, its arguments open, the row that it is handed known as another call's -/
theorem mput_own (x : Nat) (z : Int) (A : Option Addr) (n c base : Nat) (l : List UInt8) (w : World) (hx : (x : Int) ≤ 18446744073709551615) (ho : Own w base A n c l) (hn : n ≤ 100000) :
    Calls Try.prog 28 #[.agg #[.int .u64 x, .int .i64 z], .slice A n c] w (Gives w (n + wN z) (l ++ be x (wN z))) :=
  mput_any x z A n c l w hx ho.length ho.reads hn
theorem mput_nil (x : Nat) (z : Int) (w : World) (hx : (x : Int) ≤ 18446744073709551615) :
    Calls Try.prog 28 #[.agg #[.int .u64 x, .int .i64 z], .slice none 0 0] w (Gives w (wN z) (be x (wN z))) := by
  have := mput_any x z none 0 0 [] w hx rfl Reads.none_ (by omega)
  simpa using this

theorem concat_cut (A : Option Addr) (a b m : Nat) (lx ly : List UInt8) (w : World) (h1 : lx.length = a) (h2 : ly.length = b) (hr : Reads w w.heap.size 1 A (a + b) (bs (lx ++ ly))) (hm : ¬ m = a) (hle : a + b ≤ m) (h0 : 0 < a) (ha : a ≤ 100000) (hb : b ≤ 100000) :
    Calls Try.prog 32 #[.slice (some ⟨w.heap.size, 0, none⟩) 2 2] (w.alloc (.cells #[.slice (Option.map (fun x => x.add a) A) b (m - a), .slice A a m] 22))
      (Gives (w.alloc (.cells #[.slice (Option.map (fun x => x.add a) A) b (m - a), .slice A a m] 22)) (b + a) (ly ++ lx)) := by
  refine concat_two w.heap.size _ _ b a _ _ ly lx _ (Blk.new _ _ _) ?_ ?_ (by omega) hb ha
  · have h := hr.cut (k := a) (cap := m) (by omega) hle
    rw [if_neg hm, Nat.mul_one, Nat.add_sub_cancel_left] at h
    have e : bs ly = (bs (lx ++ ly)).drop a := by rw [← bs_drop, ← h1, List.drop_left]
    rw [e]
    exact (h.alloc (Nat.le_refl _) _).more (by simp)
  · have h := Reads.more (hr.alloc (Nat.le_refl _) (.cells #[.slice (Option.map (fun x => x.add a) A) b (m - a), .slice A a m] 22)) (B' := w.heap.size + 1) (by omega)
    refine ⟨by simp [length_bs, h1], fun hp => ?_⟩
    obtain ⟨ad, e, hb', hc⟩ := h.2 (by omega)
    refine ⟨ad, e, by simpa using hb', fun j v hj => hc j v ?_⟩
    rw [bs_append, List.getElem?_append_left]
    · exact hj
    · exact (List.getElem?_eq_some_iff.1 hj).1

/-- the two boxes of the numbers -/
def S4 (B x : Nat) (z : Int) (y : Nat) (u : Int) (w : World) : Prop :=
  w.cell? ⟨B, 0, none⟩ = some (.int .u64 x) ∧ w.cell? ⟨B, 1, none⟩ = some (.int .i64 z) ∧ w.cell? ⟨B + 1, 0, none⟩ = some (.int .u64 y) ∧ w.cell? ⟨B + 1, 1, none⟩ = some (.int .i64 u)
theorem S4.step {B x y : Nat} {z u : Int} {w w' : World} (hb : Below w.heap.size w w') (h : S4 B x z y u w) : S4 B x z y u w' :=
  ⟨cell_later hb h.1, cell_later hb h.2.1, cell_later hb h.2.2.1, cell_later hb h.2.2.2⟩

set_option maxHeartbeats 1000000 in
theorem walk (x y : Nat) (z u : Int) (w : World) (hx : (x : Int) ≤ 18446744073709551615) (hy : (y : Int) ≤ 18446744073709551615) :
    Calls Try.prog 7 #[.agg #[.int .u64 x, .int .i64 z], .agg #[.int .u64 y, .int .i64 u]] w fun e w' => e = .returned (.bool true) ∧ Below w.heap.size w w' := by
  have hz8 : wN z ≤ 8 := by rcases wN_cases z with ⟨h1, _⟩ | ⟨h1, _⟩ | ⟨h1, _⟩ <;> omega
  have hu8 : wN u ≤ 8 := by rcases wN_cases u with ⟨h1, _⟩ | ⟨h1, _⟩ | ⟨h1, _⟩ <;> omega
  have hz2 : 2 ≤ wN z := by rcases wN_cases z with ⟨h1, _⟩ | ⟨h1, _⟩ | ⟨h1, _⟩ <;> omega
  have hu2 : 2 ≤ wN u := by rcases wN_cases u with ⟨h1, _⟩ | ⟨h1, _⟩ | ⟨h1, _⟩ <;> omega
  have p1 := Lib.hid (fun w => mput_nil x z w hx)
  have p2 := Lib.hid (fun w => mput_nil y u w hy)
  have p3 := Lib.hid (fun A n c base l w ho hn => mput_own y u A n c base l w hy ho hn)
  have p4 := Lib.hid (fun A n c base l w ho hn => mput_own x z A n c base l w hx ho hn)
  have q1 := Lib.hid (fun w => width_any x z (wN z) w rfl)
  have q2 := Lib.hid (fun w => width_any y u (wN u) w rfl)
  generalize wN z = a at *
  generalize wN u = b at *
  go_enter Try.func7, Try.ntmps7
  go_wp2_with fail
  refine (wakes_any _).mono ?_
  rintro e w1 ⟨rfl, hB1⟩
  have hb1 : Below w.heap.size w w1 := (((Below.refl _ _).alloc (Nat.le_refl _) _).alloc (by simp) _).trans (hB1.mono (by simp; omega))
  have c0 : w1.cell? ⟨w.heap.size, 0, none⟩ = some (.int .u64 x) := (hB1.cell (p := ⟨w.heap.size, 0, none⟩) (by simp; omega)).trans (by rw [World.cell?_alloc_past _ _ _ (by simp), World.cell?_alloc_at _ _ _ _ rfl]; rfl)
  have c1 : w1.cell? ⟨w.heap.size, 1, none⟩ = some (.int .i64 z) := (hB1.cell (p := ⟨w.heap.size, 1, none⟩) (by simp; omega)).trans (by rw [World.cell?_alloc_past _ _ _ (by simp), World.cell?_alloc_at _ _ _ _ rfl]; rfl)
  have d0 : w1.cell? ⟨w.heap.size + 1, 0, none⟩ = some (.int .u64 y) := (hB1.cell (p := ⟨w.heap.size + 1, 0, none⟩) (by simp)).trans (by rw [World.cell?_alloc_at _ _ _ _ (by simp)]; rfl)
  have d1 : w1.cell? ⟨w.heap.size + 1, 1, none⟩ = some (.int .i64 u) := (hB1.cell (p := ⟨w.heap.size + 1, 1, none⟩) (by simp)).trans (by rw [World.cell?_alloc_at _ _ _ _ (by simp)]; rfl)
  have k1 : S4 w.heap.size x z y u w1 := ⟨c0, c1, d0, d1⟩
  clear hB1
  go_wp2_with fail
  go_region_held3 (fun w' => w'.cell? ⟨w.heap.size, 0, none⟩ = some (.int .u64 x) ∧ w'.cell? ⟨w.heap.size, 1, none⟩ = some (.int .i64 z) ∧ w'.cell? ⟨w.heap.size + 1, 0, none⟩ = some (.int .u64 y) ∧ w'.cell? ⟨w.heap.size + 1, 1, none⟩ = some (.int .i64 u))
    (first | exact kd | exact kc | exact kb | exact ka | exact k1)
    (first
      | (go_at_call 28; (with_reducible refine (p1.out _).mono ?_); rintro e wa ⟨A1, m1, rfl, hO1, hBa⟩; have ka := S4.step hBa k1)
      | (go_at_call 28; (with_reducible refine (p2.out _).mono ?_); rintro e wc ⟨A3, m3, rfl, hO3, hBc⟩; have kc := S4.step hBc kb)
      | (go_at_call 28; (with_reducible refine (p3.out A1 a m1 _ _ _ hO1 (by omega)).mono ?_); rintro e wb ⟨A2, m2, rfl, hO2, hBb⟩; have kb := S4.step hBb ka)
      | (go_at_call 28; (with_reducible refine (p4.out A3 b m3 _ _ _ hO3 (by omega)).mono ?_); rintro e wd ⟨A4, m4, rfl, hO4, hBd⟩; have kd := S4.step hBd kc))
  have hX : Reads wd wd.heap.size 1 A2 (a + b) (bs (be x a ++ be y b)) := ((hO2.reads.below hBc).below (hBd.mono hBc.size)).more (Nat.le_trans hBc.size hBd.size)
  have hY : Reads wd wd.heap.size 1 A4 (b + a) (bs (be y b ++ be x a)) := hO4.reads
  have hm : ¬ m2 = a := by have := hO2.cap; omega
  have hm2 : a + b ≤ m2 := hO2.cap
  have hz1 : w.heap.size ≤ w1.heap.size := hb1.size
  have b1 : Below w.heap.size w wa := hb1.drew.trans (hBa.mono hz1)
  have b2 : Below w.heap.size w wb := b1.trans (hBb.mono b1.size)
  have b3 : Below w.heap.size w wc := b2.trans (hBc.mono b2.size)
  have b4 : Below w.heap.size w wd := b3.trans (hBd.mono b3.size)
  clear b1 b2 b3 hz1 hO1 hO2 hO3 hO4 hBa hBb hBc hBd hb1 ka kb kc k1 p1 p2 p3 p4
  go_wp2_with fail
  refine (q1.out _).mono ?_
  rintro e we ⟨rfl, hBe⟩
  have ke := S4.step hBe kd
  have hXe := (hX.below hBe).more hBe.size
  have hYe := (hY.below hBe).more hBe.size
  have b5 : Below w.heap.size w we := b4.trans (hBe.mono b4.size)
  clear hX hY hBe kd b4 q1
  obtain ⟨e0, e1, e2, e3⟩ := ke
  have i0 : (0 : Int) ≤ (a : Int) := by omega
  have i1 : (a : Int) ≤ (a : Int) + (b : Int) := by omega
  have i2 : (a : Int) + (b : Int) ≤ (m2 : Int) := by omega
  have i3 : (a : Int) ≤ (m2 : Int) := by omega
  have i4 : IntKind.i64.wrap ((a : Int) + (b : Int)) = (a : Int) + (b : Int) := by rw [IntKind.wrap_i64]; omega
  have i5 : a ≤ a + b := by omega
  have i6 : a ≤ m2 := by omega
  go_wp2_with fail
  go_region_held3 (fun w' => w'.cell? ⟨w.heap.size + 1, 0, none⟩ = some (.int .u64 y) ∧ w'.cell? ⟨w.heap.size + 1, 1, none⟩ = some (.int .i64 u))
    (first | exact ⟨g2, g3⟩ | exact ⟨f2, f3⟩ | exact ⟨e2, e3⟩ | go_keep)
    (first
      | (go_at_call 29; refine (q2.out _).mono ?_; rintro e wf ⟨rfl, hBf⟩; have f2 := cell_later hBf (show we.drew.cell? _ = _ from e2); have f3 := cell_later hBf (show we.drew.cell? _ = _ from e3)
         have hXf := ((show Reads we.drew we.drew.heap.size 1 A2 (a + b) (bs (be x a ++ be y b)) from hXe).below hBf).more hBf.size
         have hYf := ((show Reads we.drew we.drew.heap.size 1 A4 (b + a) (bs (be y b ++ be x a)) from hYe).below hBf).more hBf.size
         have hC := Lib.hid (concat_cut A2 a b m2 (be x a) (be y b) wf (length_be _ _) (length_be _ _) hXf hm hm2 (by omega) (by omega) (by omega)))
      | (go_at_call 32; refine hC.out.mono ?_; rintro e wg ⟨A5, m5, rfl, hO5, hBg⟩; have g2 := cell_later hBg (cell_later ((Below.refl _ _).alloc (Nat.le_refl _) _) f2); have g3 := cell_later hBg (cell_later ((Below.refl _ _).alloc (Nat.le_refl _) _) f3); have hYg : Reads wg wf.heap.size 1 A4 (b + a) (bs (be y b ++ be x a)) := (hYf.alloc (Nat.le_refl _) _).below (hBg.mono (by simp)))
      | (go_at_call 31; refine (equal_same A4 A5 (b + a) (b + a) m4 m5 _ _ (be y b ++ be x a) _ hYg hO5.reads).mono ?_; rintro e wh ⟨rfl, rfl⟩))
  have b6 : Below w.heap.size w wf := b5.drew.trans (hBf.mono b5.size)
  have b7 := (b6.alloc b6.size _).trans (hBg.mono (by have := b6.size; simp; omega))
  go_wp2
  go_ret
  exact ⟨rfl, b7⟩

set_option maxRecDepth 100000 in
theorem lifted (os : Os) (started : os.Started) (H : Type) (enc : TypeId × Value → H) :
    ReturnsInHanded {} Try.checked os 7 .any (Rows.octetTurnsSpec.pre6 enc Try.prog Try.f7 Rows.octetTurnsRow.domain false) (Rows.octetTurnsSpec.post enc Try.prog Try.f7 false true false false) := by
  refine returnsInHanded_of_change (C := Try.checked) own started (by kernel_rfl) Try.func7
    (ChangeSpec.witness6 (enc := enc) (C := Try.checked) false ⟨#[], #[.agg #[.int .u64 0, .int .i64 0], .agg #[.int .u64 0, .int .i64 0]], []⟩ 8 (by kernel_rfl) (by kernel_rfl) (by kernel_rfl) (by kernel_rfl)) ?_
  intro W base args ds gs before hval0 hW hcnd _
  have hval : ∀ (j : Nat) t v, Try.f7.params[j]? = some t → args[j]? = some v → Value.okWide Try.prog W .any base t v := hval0
  have hW' := hW
  obtain ⟨p, q, hA0, hV, rfl, hfz, hnd⟩ := hW
  have hA : DataW.TrodAll enc Try.prog W 0 (fun _ => true) true Try.f7.params.toList args.toList ds p := hA0
  rw [Try.params7] at hA hval
  obtain ⟨v0, v1, d0, d1, p0, p1, rfl, rfl, rfl, h0, h1⟩ := trodAll_two hA
  obtain ⟨rfl, rfl⟩ := trodVars_none hV
  obtain ⟨x, z, rfl, rfl, rfl, hx, wz⟩ := open_mixed (hval 0 53 v0 rfl rfl) h0
  obtain ⟨y, u, rfl, rfl, rfl, hy, wu⟩ := open_mixed (hval 1 53 v1 rfl rfl) h1
  clear hA0 hval0
  simp only [List.append_nil] at hW'
  refine (walk x y z u W hx hy).mono fun e W' ⟨he, hb⟩ => ?_
  subst he
  exact ⟨_, rfl, post_of_below (pa := []) (pv := []) hW' (fun _ _ _ => trodAll_mk1 (shut_bool Try.underlying4 _)) (fun sp _ => trodAll_mk2 (shut_mixed hx wz) (shut_mixed hy wu)) (fun _ _ => rfl) rfl
    hb (ok_one (by kernel_rfl) rfl (okWide_bool_mk Try.underlying4 _))⟩

theorem proved : Rows.OctetTurnsSaid :=
  OpenClaim.holds_of_wide 7 Try.f7 rfl rfl rfl rfl rfl rfl rfl ⟨rfl, rfl, rfl, rfl, rfl⟩ rfl rfl rfl rfl rfl (by kernel_rfl) Try.func7 (by kernel_rfl)
    (of_decide_eq_true (by kernel_rfl)) (by unfold Func.isWrapper; first | (rw [if_pos (by decide +kernel)]; kernel_rfl) | (rw [if_neg (by decide +kernel)]; exact ⟨rfl, rfl⟩))
    (fun os started H enc _ => lifted os started H enc)

end Go.Proofs.Ytifclmmfnfppiaa.octetTurns
