/-
  The contracts of octet's walk, number, Raw, U8, U16, U32 and U64. No statement is proved here.
-/
import Derived.Test.YtifclmmfnfppiaaOctNum
namespace Go.Proofs.Ytifclmmfnfppiaa
open Go.RowKit

set_option maxHeartbeats 400000 in
theorem tell_raw (A : Option Addr) (n c : Nat) (l : List UInt8) (pr : Nat) (w : World) (hl : l.length = n) (hr : Reads w w.heap.size 1 A n (bs l)) (hn : n ≤ 100000)
    (hx : Blk w pr 22 #[.slice none 0 0]) :
    Calls Try.prog 36 #[.slice A n c, .pointer (some ⟨pr, 0, none⟩)] w fun e w' => e = .returned (.tuple #[]) ∧
      (∃ A' c', Blk w' pr 22 #[.slice A' n c'] ∧ Own w' w.heap.size A' n c' l) ∧ w.grownBy w' (some pr) := by
  have hcl := Lib.hid (clone_any A n c l w hl hr hn)
  have hlt := hx.lt
  clear hl hr
  go_enter Try.func36, Try.ntmps36
  go_wp2_with fail
  refine hcl.out.mono ?_
  rintro e w1 ⟨A1, c1, rfl, hO, hB, _⟩
  have hx1 := hx.below hB hlt
  have c0 := hx1.cell 0
  have f0 := hx1.frozen 0
  go_wp2
  go_end0
  refine ⟨rfl, ⟨A1, c1, hx1.set_ 0 _, ownsRow_setCell_below hO hlt _⟩, only_setCell (only_of_below hB _) (.inl rfl) _⟩

theorem Rd.set_stop {w : World} {p : Nat} {l : List UInt8} {st : Int} (h : Rd w p l st) (st' : Int) : Rd (w.setCell ⟨p, 1, none⟩ (.int .i64 st')) p l st' := by
  obtain ⟨A, c, h1, h2, h3⟩ := h
  exact ⟨A, c, h1.set_ 1 _, h2, h3.setCell (Nat.le_refl _) _⟩

set_option maxHeartbeats 400000 in
theorem walk_stopped (p : Nat) (l : List UInt8) (st n : Int) (T : Value) (w : World) (h : Rd w p l st) (hst : st ≠ 0) :
    Calls Try.prog 35 #[.pointer (some ⟨p, 0, none⟩), .int .i64 n, T] w fun e w' => e = .returned (.tuple #[]) ∧ w = w' := by
  obtain ⟨A, c, c0, c1⟩ := h.cells
  clear h
  have hs : (st != 0) = true := by simpa using hst
  go_enter Try.func35, Try.ntmps35
  go_wp2
  go_end0
  exact ⟨rfl, rfl⟩

set_option maxHeartbeats 400000 in
theorem walk_arg (p : Nat) (l : List UInt8) (n : Int) (T : Value) (w : World) (h : Rd w p l 0) (hn : n < 0) :
    Calls Try.prog 35 #[.pointer (some ⟨p, 0, none⟩), .int .i64 n, T] w fun e w' => e = .returned (.tuple #[]) ∧ Rd w' p l 2 ∧ w.grownBy w' (some p) := by
  have H := Lib.hid (h.set_stop 2)
  obtain ⟨A, c, hb, _, _⟩ := h
  have c0 := hb.cell 0
  have c1 := hb.cell 1
  have f1 := hb.frozen 1
  clear hb
  go_enter Try.func35, Try.ntmps35
  go_wp2
  go_end0
  exact ⟨rfl, H.out, only_setCell (World.grownBy.refl _ _) (.inl rfl) _⟩

set_option maxHeartbeats 400000 in
theorem walk_short (p : Nat) (l : List UInt8) (n : Int) (T : Value) (w : World) (h : Rd w p l 0) (hn : (l.length : Int) < n) :
    Calls Try.prog 35 #[.pointer (some ⟨p, 0, none⟩), .int .i64 n, T] w fun e w' => e = .returned (.tuple #[]) ∧ Rd w' p l 7 ∧ w.grownBy w' (some p) := by
  have H := Lib.hid (h.set_stop 7)
  obtain ⟨A, c, hb, _, _⟩ := h
  have c0 := hb.cell 0
  have c1 := hb.cell 1
  have f1 := hb.frozen 1
  clear hb
  go_enter Try.func35, Try.ntmps35
  go_wp2
  go_end0
  exact ⟨rfl, H.out, only_setCell (World.grownBy.refl _ _) (.inl rfl) _⟩

theorem take_reads {w : World} {B n m : Nat} {A : Option Addr} {l : List UInt8} (h : Reads w B 1 A n (bs l)) (hm : m ≤ n) : Reads w B 1 A m (bs (l.take m)) := by
  have hl : l.length = n := by have := h.1; simpa [length_bs] using this
  refine ⟨by simp [length_bs]; omega, fun h0 => ?_⟩
  obtain ⟨ad, e, hb, hc⟩ := h.2 (by omega)
  refine ⟨ad, e, hb, fun j u hu => hc j u ?_⟩
  rw [bs_take, List.getElem?_take] at hu
  split at hu
  · exact hu
  · cases hu
theorem reads_lt {w : World} {B n : Nat} {A : Option Addr} {xs : List Value} (h : Reads w B 1 A n xs) (h0 : 0 < n) {ad : Addr} (e : A = some ad) : ad.block < B := by
  obtain ⟨ad', e', hb, _⟩ := h.2 h0
  rw [e] at e'
  injection e' with e'
  subst e'
  exact hb

theorem cut_rd {w : World} {p n c : Nat} {A : Option Addr} {l : List UInt8} (hb : Blk w p 65 #[.slice A l.length c, .int .i64 0]) (hr : Reads w p 1 A l.length (bs l)) (hc : l.length ≤ c) (hn : n ≤ l.length) :
    ∀ A2, A2 = (if c = n then A else A.map (·.add n)) → Rd (w.setCell ⟨p, 0, none⟩ (.slice A2 (l.length - n) (c - n))) p (l.drop n) 0 := by
  rintro A2 rfl
  refine ⟨if c = n then A else A.map (·.add n), c - n, ?_, by simp; omega, ?_⟩
  · have := hb.set_ 0 (.slice (if c = n then A else A.map (·.add n)) (l.length - n) (c - n))
    rw [List.length_drop]
    exact this
  · have h := hr.cut hn hc
    rw [Nat.mul_one] at h
    rw [List.length_drop, bs_drop]
    exact h.setCell (Nat.le_refl _) _

set_option maxHeartbeats 400000 in
theorem walk_num (p pw px n : Nat) (l : List UInt8) (w : World) (h : Rd w p l 0) (hn : n ≤ l.length) (hn8 : n ≤ 8)
    (hw : w.cell? ⟨pw, 0, none⟩ = some (.int .i64 n)) (hx : Blk w px 23 #[.int .u64 0]) (h1 : pw ≠ px) (h3 : p < px) :
    Calls Try.prog 35 #[.pointer (some ⟨p, 0, none⟩), .int .i64 n, .func (.func 40) #[] #[.pointer (some ⟨pw, 0, none⟩), .pointer (some ⟨px, 0, none⟩)]] w fun e w' =>
      e = .returned (.tuple #[]) ∧ Rd w' p (l.drop n) 0 ∧ Blk w' px 23 #[.int .u64 (num (l.take n))] ∧ Far (fun k => k = p ∨ k = px) w w' := by
  obtain ⟨A, c, hb, hcap, hr⟩ := h
  have c0 := hb.cell 0
  have c1 := hb.cell 1
  go_enter Try.func35, Try.ntmps35
  go_wp2_with fail
  have hlt : p < w.heap.size := hb.lt
  refine (tell_num A n c (l.take n) pw px w (by simp; omega) ((take_reads hr hn).more (by omega)) hn8 hw hx h1 (fun ad h0 e => by have := reads_lt hr (by omega) e; omega)).mono ?_
  rintro e w1 ⟨rfl, hX, hg⟩
  have hb1 : Blk w1 p 65 #[.slice A l.length c, .int .i64 0] := hb.grown hg (by simp; omega)
  have d0 := hb1.cell 0
  have f0 := hb1.frozen 0
  have hr1 : Reads w1 p 1 A l.length (bs l) := hr.keep fun q hq => World.cell?_of_block (hg.block _ (by omega) (by simp; omega))
  have H0 := cut_rd hb1 hr1 hcap hn
  clear hr hr1 c0 c1 hb
  by_cases hcn : c = n
  · subst hcn
    have H1 := H0 A (by simp)
    rw [show l.length - c = 0 by omega, Nat.sub_self] at H1
    have H := Lib.hid H1
    clear H0 H1
    go_wp2
    go_end0
    exact ⟨rfl, H.out, hX.far (by simp; omega) _, (Far.of_grown hg (by simp)).setCell (by simp) _⟩
  · have H := Lib.hid (H0 (Option.map (fun x => x.add n) A) (by rw [if_neg hcn]))
    clear H0
    go_wp2
    go_end0
    exact ⟨rfl, H.out, hX.far (by simp; omega) _, (Far.of_grown hg (by simp)).setCell (by simp) _⟩

set_option maxHeartbeats 400000 in
theorem walk_raw (p pr n : Nat) (l : List UInt8) (w : World) (h : Rd w p l 0) (hn : n ≤ l.length) (hl : l.length ≤ 100000) (hx : Blk w pr 22 #[.slice none 0 0]) (h3 : p < pr) :
    Calls Try.prog 35 #[.pointer (some ⟨p, 0, none⟩), .int .i64 n, .func (.func 36) #[] #[.pointer (some ⟨pr, 0, none⟩)]] w fun e w' =>
      e = .returned (.tuple #[]) ∧ Rd w' p (l.drop n) 0 ∧ (∃ A' c', Blk w' pr 22 #[.slice A' n c'] ∧ Own w' w.heap.size A' n c' (l.take n)) ∧ Far (fun k => k = p ∨ k = pr) w w' := by
  obtain ⟨A, c, hb, hcap, hr⟩ := h
  have c0 := hb.cell 0
  have c1 := hb.cell 1
  go_enter Try.func35, Try.ntmps35
  go_wp2_with fail
  have hlt : p < w.heap.size := hb.lt
  refine (tell_raw A n c (l.take n) pr w (by simp; omega) ((take_reads hr hn).more (by omega)) (by omega) hx).mono ?_
  rintro e w1 ⟨rfl, ⟨A1, c1', hX, hO⟩, hg⟩
  have hb1 : Blk w1 p 65 #[.slice A l.length c, .int .i64 0] := hb.grown hg (by simp; omega)
  have d0 := hb1.cell 0
  have f0 := hb1.frozen 0
  have hr1 : Reads w1 p 1 A l.length (bs l) := hr.keep fun q hq => World.cell?_of_block (hg.block _ (by omega) (by simp; omega))
  have H0 := cut_rd hb1 hr1 hcap hn
  clear hr hr1 c0 c1 hb
  by_cases hcn : c = n
  · subst hcn
    have H1 := H0 A (by simp)
    rw [show l.length - c = 0 by omega, Nat.sub_self] at H1
    have H := Lib.hid H1
    clear H0 H1
    go_wp2
    go_end0
    exact ⟨rfl, H.out, ⟨A1, c1', hX.far (by simp; omega) _, ownsRow_setCell_below hO hlt _⟩, (Far.of_grown hg (by simp)).setCell (by simp) _⟩
  · have H := Lib.hid (H0 (Option.map (fun x => x.add n) A) (by rw [if_neg hcn]))
    clear H0
    go_wp2
    go_end0
    exact ⟨rfl, H.out, ⟨A1, c1', hX.far (by simp; omega) _, ownsRow_setCell_below hO hlt _⟩, (Far.of_grown hg (by simp)).setCell (by simp) _⟩

theorem Rd.drew {w : World} {p : Nat} {l : List UInt8} {st : Int} (h : Rd w p l st) : Rd w.drew p l st := h

set_option maxHeartbeats 400000 in
theorem number_nil (wd : Int) (w : World) : Calls Try.prog 37 #[.pointer none, .int .i64 wd] w fun e w' => e = .returned (.int .u64 0) ∧ Below w.heap.size w w' := by
  go_enter Try.func37, Try.ntmps37
  go_wp2
  go_ret
  exact ⟨rfl, (Below.refl _ _).alloc (Nat.le_refl _) _⟩

/-- the two boxes that number makes -/
structure Boxes (w W : World) (p wd : Nat) (l : List UInt8) (st : Int) : Prop where
  cw : W.cell? ⟨w.heap.size, 0, none⟩ = some (.int .i64 wd)
  cx : Blk W (w.heap.size + 1) 23 #[.int .u64 0]
  rd : Rd W p l st
  far : w.grownBy W (some p)
theorem boxes (w : World) (p wd : Nat) (l : List UInt8) (st : Int) (h : Rd w p l st) :
    Boxes w ((w.alloc (.cells #[.int .i64 wd] 3)).alloc (.cells #[.int .u64 0] 23)) p wd l st := by
  refine ⟨?_, ?_, (h.alloc _).alloc _, only_alloc (only_alloc (World.grownBy.refl _ _) _) _⟩
  · rw [World.cell?_alloc_past _ _ _ (by simp), World.cell?_alloc_at _ _ _ _ rfl]; rfl
  · have := Blk.new (w.alloc (.cells #[.int .i64 wd] 3)) 23 #[.int .u64 0]
    simpa using this

set_option maxHeartbeats 400000 in
theorem number_ok (p wd : Nat) (l : List UInt8) (w : World) (h : Rd w p l 0) (hn : wd ≤ l.length) (hn8 : wd ≤ 8) :
    Calls Try.prog 37 #[.pointer (some ⟨p, 0, none⟩), .int .i64 wd] w fun e w' =>
      e = .returned (.int .u64 (num (l.take wd))) ∧ Rd w' p (l.drop wd) 0 ∧ w.grownBy w' (some p) := by
  have hlt := h.lt
  have hB := boxes w p wd l 0 h
  clear h
  go_enter Try.func37, Try.ntmps37
  go_wp2_with fail
  generalize (w.alloc (.cells #[.int .i64 wd] 3)).alloc (.cells #[.int .u64 0] 23) = W at hB ⊢
  obtain ⟨cw, cx, rd, far⟩ := hB
  go_still_tail 5, (by kernel_rfl)
  change wpList _ _ _ _ _ W.drew
  go_wp2_with (go_at_call 35; refine (walk_num p w.heap.size (w.heap.size + 1) wd l W.drew rd hn hn8 cw cx (by omega) (by omega)).mono ?_; rintro e w1 ⟨rfl, hR, hX, hF⟩; have cX := hX.cell 0)
  go_ret
  exact ⟨rfl, hR, grown_far (only_drew far) hF (fun i hi hs => by rcases hs with rfl | rfl; exact rfl; omega)⟩

/-- why a reader does not walk over n bytes -/
def Bad (st : Int) (len : Nat) (n st' : Int) : Prop := (st ≠ 0 ∧ st' = st) ∨ (st = 0 ∧ n < 0 ∧ st' = 2) ∨ (st = 0 ∧ (len : Int) < n ∧ st' = 7)
theorem walk_bad (p : Nat) (l : List UInt8) (st n st' : Int) (T : Value) (w : World) (h : Rd w p l st) (hb : Bad st l.length n st') :
    Calls Try.prog 35 #[.pointer (some ⟨p, 0, none⟩), .int .i64 n, T] w fun e w' => e = .returned (.tuple #[]) ∧ Rd w' p l st' ∧ w.grownBy w' (some p) := by
  rcases hb with ⟨h1, rfl⟩ | ⟨rfl, h1, rfl⟩ | ⟨rfl, h1, rfl⟩
  · refine (walk_stopped p l st' n T w h h1).mono ?_
    rintro e w' ⟨rfl, rfl⟩
    exact ⟨rfl, h, World.grownBy.refl _ _⟩
  · exact walk_arg p l n T w h h1
  · exact walk_short p l n T w h h1

set_option maxHeartbeats 400000 in
theorem number_bad (p wd : Nat) (l : List UInt8) (st st' : Int) (w : World) (h : Rd w p l st) (hb : Bad st l.length wd st') :
    Calls Try.prog 37 #[.pointer (some ⟨p, 0, none⟩), .int .i64 wd] w fun e w' =>
      e = .returned (.int .u64 0) ∧ Rd w' p l st' ∧ w.grownBy w' (some p) := by
  have hlt := h.lt
  have hB := boxes w p wd l st h
  have HB := Lib.hid hb
  clear h hb
  go_enter Try.func37, Try.ntmps37
  go_wp2_with fail
  generalize (w.alloc (.cells #[.int .i64 wd] 3)).alloc (.cells #[.int .u64 0] 23) = W at hB ⊢
  obtain ⟨cw, cx, rd, far⟩ := hB
  go_still_tail 5, (by kernel_rfl)
  change wpList _ _ _ _ _ W.drew
  go_wp2_with (go_at_call 35; refine (walk_bad p l st wd st' _ W.drew rd HB.out).mono ?_; rintro e w1 ⟨rfl, hR, hF⟩; have cX := (Blk.grown (w := W.drew) cx hF (by simp; omega)).cell 0)
  go_ret
  exact ⟨rfl, hR, grown_trans2 (only_drew far) hF⟩

set_option maxHeartbeats 400000 in
theorem raw_nil (n : Int) (w : World) : Calls Try.prog 19 #[.pointer none, .int .i64 n] w fun e w' => e = .returned (.slice none 0 0) ∧ w = w' := by
  go_enter Try.func19, Try.ntmps19
  go_wp2
  go_ret
  exact ⟨rfl, rfl⟩

theorem raw_box (w : World) (p : Nat) (l : List UInt8) (st : Int) (h : Rd w p l st) :
    Blk (w.alloc (.cells #[.slice none 0 0] 22)) w.heap.size 22 #[.slice none 0 0] ∧ Rd (w.alloc (.cells #[.slice none 0 0] 22)) p l st ∧ w.grownBy (w.alloc (.cells #[.slice none 0 0] 22)) (some p) ∧ w.heap.size ≤ (w.alloc (.cells #[.slice none 0 0] 22)).heap.size :=
  ⟨Blk.new _ _ _, h.alloc _, only_alloc (World.grownBy.refl _ _) _, by simp⟩

set_option maxHeartbeats 400000 in
theorem raw_ok (p n : Nat) (l : List UInt8) (w : World) (h : Rd w p l 0) (hn : n ≤ l.length) (hl : l.length ≤ 100000) :
    Calls Try.prog 19 #[.pointer (some ⟨p, 0, none⟩), .int .i64 n] w fun e w' =>
      (∃ A c, e = .returned (.slice A n c) ∧ Own w' w.heap.size A n c (l.take n)) ∧ Rd w' p (l.drop n) 0 ∧ w.grownBy w' (some p) := by
  have hlt := h.lt
  have hB := raw_box w p l 0 h
  clear h
  go_enter Try.func19, Try.ntmps19
  go_wp2_with fail
  generalize w.alloc (.cells #[.slice none 0 0] 22) = W at hB ⊢
  obtain ⟨cx, rd, far, hsz⟩ := hB
  refine (walk_raw p w.heap.size n l W rd hn hl cx hlt).mono ?_
  rintro e w1 ⟨rfl, hR, ⟨A1, c1, hX, hO⟩, hF⟩
  have cX := hX.cell 0
  go_wp2
  go_ret
  exact ⟨⟨A1, c1, rfl, hO.mono hsz⟩, hR, grown_far far hF (fun i hi hs => by rcases hs with rfl | rfl; exact rfl; omega)⟩

set_option maxHeartbeats 400000 in
theorem raw_bad (p : Nat) (n : Int) (l : List UInt8) (st st' : Int) (w : World) (h : Rd w p l st) (hb : Bad st l.length n st') :
    Calls Try.prog 19 #[.pointer (some ⟨p, 0, none⟩), .int .i64 n] w fun e w' =>
      e = .returned (.slice none 0 0) ∧ Rd w' p l st' ∧ w.grownBy w' (some p) := by
  have hlt := h.lt
  have hB := raw_box w p l st h
  have HB := Lib.hid hb
  clear h hb
  go_enter Try.func19, Try.ntmps19
  go_wp2_with fail
  generalize w.alloc (.cells #[.slice none 0 0] 22) = W at hB ⊢
  obtain ⟨cx, rd, far, hsz⟩ := hB
  refine (walk_bad p l st n st' _ W rd HB.out).mono ?_
  rintro e w1 ⟨rfl, hR, hF⟩
  have cX := (cx.grown hF (by simp; omega)).cell 0
  go_wp2
  go_ret
  exact ⟨rfl, hR, grown_trans2 far hF⟩

end Go.Proofs.Ytifclmmfnfppiaa
