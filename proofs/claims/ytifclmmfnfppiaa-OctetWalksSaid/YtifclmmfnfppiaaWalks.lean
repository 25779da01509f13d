/-
  OctetWalks: whoever walks over whatever bytes, step by step, is told what the document says, and stops where it says. No condition.
-/
import Derived.Test.YtifclmmfnfppiaaOctWakes
import Derived.Test.YtifclmmfnfppiaaRefs
import Derived.Test.YtifclmmfnfppiaaArgsB
namespace Go.Proofs.Ytifclmmfnfppiaa.octetWalks
open Go.ChangeShapes Go.WideShapes Go.ChangeAt Go.RowKit

/-- a reader, and that it lies in memory that Read made -/
def ReadFresh (w : World) (l : List UInt8) (e : Ending) (w' : World) : Prop :=
  ∃ p, e = .returned (.pointer (some ⟨p, 0, none⟩)) ∧ w.heap.size ≤ p ∧ p < w'.heap.size ∧ Below w.heap.size w w' ∧ ∀ W, (∀ k, w.heap.size ≤ k → k < w'.heap.size → W.heap[k]? = w'.heap[k]?) → Rd W p l 0

set_option maxHeartbeats 400000 in
theorem read_fresh (A : Option Addr) (n c : Nat) (l : List UInt8) (w : World) (hl : l.length = n) (hr : Reads w w.heap.size 1 A n (bs l)) (hn : n ≤ 100000) :
    Calls Try.prog 17 #[.slice A n c] w (ReadFresh w l) := by
  have hcl := clone_any A n c l w hl hr hn
  have h := Lib.hid hcl
  clear hcl hl hr
  go_enter Try.func17, Try.ntmps17
  go_wp2_with (go_at_call 34; refine h.out.mono ?_; rintro e w1 ⟨A1, c1, rfl, hO, hB, _⟩)
  go_ret
  have hl1 := hO.length
  refine ⟨_, rfl, hB.size, by simp, hB.alloc hB.size _, fun W hW => ⟨A1, c1, ?_, ?_, ?_⟩⟩
  · rw [hl1]
    have h1 := hW w1.heap.size hB.size (by simp)
    exact h1.trans (Blk.new w1 65 #[.slice A1 n c1, .int .i64 0])
  · rw [hl1]; exact hO.cap
  · rw [hl1]
    refine ⟨by simp [length_bs, hl1], fun h0 => ?_⟩
    obtain ⟨ad, e, hb, hc⟩ := hO.reads.2 h0
    obtain ⟨hf1, hf2, _, _⟩ := hO.fresh ad e
    refine ⟨ad, e, hb, fun j u hu => ?_⟩
    have h1 := hW ad.block hf1 (by simp; omega)
    have h2 : (w1.alloc (.cells #[.slice A1 n c1, .int .i64 0] 65)).cell? (ad.add j) = w1.cell? (ad.add j) := World.cell?_alloc_lt w1 _ _ (by rw [block_of_add]; exact hf2)
    have h3 : W.cell? (ad.add j) = (w1.alloc (.cells #[.slice A1 n c1, .int .i64 0] 65)).cell? (ad.add j) := World.cell?_of_block (by rw [block_of_add]; exact h1)
    rw [h3, h2]
    exact hc j u hu

theorem Way0 (w : World) (A : Option Addr) : Reads w w.heap.size 1 A 0 (bs []) := ⟨by simp [bs], fun h => absurd h (by omega)⟩

set_option maxRecDepth 100000 in
set_option maxHeartbeats 16000000 in
theorem walk (A : Option Addr) (n c : Nat) (l : List UInt8) (S : Option Addr) (m d : Nat) (zs : List Int) (w : World) (hl : l.length = n) (hr : Reads w w.heap.size 1 A n (bs l)) (hn : n ≤ 3000) (hc : n ≤ c)
    (hzl : zs.length = m) (hz : Reads w w.heap.size 1 S m (zs.map (Value.int .i64))) (hzw : ∀ z ∈ zs, (Lit.int .i64 z).wf = true) (hm : m ≤ 300) :
    Calls Try.prog 4 #[.slice A n c, .slice S m d] w fun e w' => e = .returned (.bool true) ∧ Below w.heap.size w w' := by
  obtain ⟨i0, hi0, hz0, hz1, hz2⟩ := info_parts byte_info
  have HL := Lib.hid hl
  have HZ := Lib.hid hzl
  have HW := Lib.hid hzw
  clear hl hzl hzw
  have hn' : (n : Int) ≤ 3000 := by omega
  have hm' : (m : Int) ≤ 300 := by omega
  have dn : decide ((3000 : Int) < (n : Int)) = false := by simp; omega
  have dm : decide ((300 : Int) < (m : Int)) = false := by simp; omega
  go_enter Try.func4, Try.ntmps4
  go_wp2_with fail
  refine (wakes_any _).mono ?_
  rintro e w1 ⟨rfl, hB1⟩
  have hr1 : Reads w1 w1.heap.size 1 A n (bs l) := (hr.below hB1).more hB1.size
  go_wp2_with (
    at_builtin
    refine wpList_append_any _ rfl (.tmp 25) (.tmp 26) 22 rfl w1.heap.size 5 i0 (.int .u8 0) 1 1 Try.underlying22 hi0 hz0 hz1 hz2 rfl (by decide) (.slice (some ⟨w1.heap.size, 0, none⟩) 0 0) 0 [] rfl (World.ownsRow_made _ _ _ (Nat.le_refl _) (by simp [maxLen]) (by simp)) w1.heap.size A n c (bs l) rfl (hr1.alloc (Nat.le_refl _) _) (bs_ones l) (by simp only [maxLen]; omega) (by omega) (by simp) ?_
    intro v2 w2 hown2 hg2 _
    have hown2' : w2.ownsRow w1.heap.size 5 1 v2 n (bs l) := by simpa using hown2
    have hb2 : Below w1.heap.size w1 w2 := ((Below.refl _ _).alloc (Nat.le_refl _) _).grown hg2 (by simp) (fun g hg => by simp [Value.ownBlock] at hg; omega)
    obtain ⟨Ao, co, rfl, hO2⟩ := own_slice hown2'
    have HRd := Lib.hid (read_fresh Ao n co l w2 HL.out hO2.reads (by omega)))
  refine HRd.out.mono ?_
  rintro e w3 ⟨p, rfl, hp, hp2, hB3, hfr⟩
  have hO3 : w3.ownsRow w1.heap.size 5 1 (.slice Ao n co) n (bs l) := by
    refine ⟨hown2'.1, ?_⟩
    rcases hown2'.2 with h | ⟨g, cap, cur, h1, h2, h3, r⟩
    · exact .inl h
    · exact .inr ⟨g, cap, cur, h1, h2, (Blk.below (t := 5) h3 hB3 (Blk.lt (t := 5) h3)), r⟩
  have hfrs : ∀ g, (Value.slice Ao n co).ownBlock = some g → w1.heap.size ≤ g ∧ g < w2.heap.size := fun g hg => hown2'.lt g hg
  clear hown2 hown2' hg2 hO2 HRd
  go_wp2_with fail
  go_loopw [32] (fun i wr => ∃ (k : Nat) (xs : List Value), k ≤ n ∧ i = .int .i64 k ∧ wr.ownsRow w1.heap.size 5 1 (.slice Ao n co) n xs ∧ (∀ u ∈ xs, ∃ z, u = .int .u8 z) ∧ w3.grownBy wr (Value.slice Ao n co).ownBlock) (fun i _ => n - (intOf i).toNat)
  case atStart => exact ⟨0, bs l, by omega, rfl, hO3, by intro u hu; simp only [bs, List.mem_map] at hu; obtain ⟨x, _, rfl⟩ := hu; exact ⟨_, rfl⟩, World.grownBy.refl _ _⟩
  case round =>
    obtain ⟨k, xs, hk, rfl, hown, hxs, hgr⟩ := hrel
    by_cases hlt : k < n
    · obtain ⟨g, cap, hv, hg, hgl⟩ := hown.form (by omega)
      injection hv with e1 _ e3
      subst e1 e3
      have hlen : xs.length = n := by have := hown.1; simpa using this
      obtain ⟨z, hz'⟩ := hxs xs[k] (List.getElem_mem _)
      have cK : wr.cell? ⟨g, k, none⟩ = some (.int .u8 z) := by
        rw [hown.cellAt k (by omega), List.getElem?_eq_getElem (by omega), hz']
      have fK := hown.frozenAt k
      have HS := Lib.hid (fun u => hown.stored k u)
      have HX := Lib.hid hxs
      have q0 : (0 : Int) ≤ (k : Int) := by omega
      have q1 : (k : Int) < (n : Int) := by omega
      clear hown hxs hz'
      go_wp2
      go_roundw
      case rel =>
        refine ⟨k + 1, xs.set k _, by omega, by go_num, (HS.out _).1, fun u hu => ?_, grown_trans2 hgr (HS.out _).2⟩
        rcases List.mem_or_eq_of_mem_set hu with h | h
        · exact HX.out u h
        · exact ⟨_, h⟩
      case measure => simp [intOf]; omega
    · obtain rfl : n = k := by omega
      have hRd := hfr wr (fun j h1 h2 => hgr.block j h2 (fun e => by
        have := hfrs j e.symm
        omega))
      have hBw : Below w.heap.size w wr := (hB1.trans (hb2.mono hB1.size)).trans ((hB3.mono (by have := hB1.size; have := hb2.size; omega)).grown hgr (by have := hB1.size; have := hb2.size; have := hB3.size; omega) (fun j hj => by have := hfrs j hj; have := hB1.size; omega))
      have hpw : w.heap.size ≤ p := by have := hB1.size; have := hb2.size; omega
      clear hxs hown hgr hfr hfrs hO3 hB3 hb2 hr1 hB1
      go_wp2_with fail
      go_loopw [8, 9, 44] (fun wv ev i wq => ∃ (k a : Nat) (st : Int), k ≤ m ∧ i = .int .i64 k ∧ wv = .int .i64 a ∧ ev = .int .i64 st ∧ a ≤ n ∧ Rd wq p (l.drop a) st ∧ Below w.heap.size w wq) (fun _ _ i _ => m - (intOf i).toNat)
      case atStart => exact ⟨0, 0, 0, by omega, rfl, rfl, rfl, by omega, hRd, hBw⟩
      case round =>
        obtain ⟨k, a, st, hk, rfl, rfl, rfl, ha, hR, hB⟩ := hrel
        by_cases hkm : k < m
        · obtain ⟨ad, v, rfl, had, hxz, hcz⟩ := hz.at_ hkm
          obtain ⟨s, hs', rfl⟩ : ∃ s, zs[k]? = some s ∧ v = .int .i64 s := by
            simp only [List.getElem?_map, Option.map_eq_some_iff] at hxz
            obtain ⟨s, h1, h2⟩ := hxz
            exact ⟨s, h1, h2.symm⟩
          have hsw : -9223372036854775808 ≤ s ∧ s ≤ 9223372036854775807 := by
            simpa [Lit.wf, IntKind.min, IntKind.max, IntKind.signed, IntKind.bits] using HW.out s (List.mem_of_getElem? hs')
          obtain ⟨hsw1, hsw2⟩ := hsw
          have hcs := (hB.cell (p := ad.add k) (by rw [block_of_add]; exact had)).trans hcz
          clear hxz hs' hcz
          have hM : (((k : Int) % 2 == 1) = true) ∨ (((k : Int) % 2 == 1) = false ∧ s ≠ 1 ∧ s ≠ 2 ∧ s ≠ 4 ∧ s ≠ 8) ∨ (((k : Int) % 2 == 1) = false ∧ s = 1) ∨ (((k : Int) % 2 == 1) = false ∧ s = 2) ∨ (((k : Int) % 2 == 1) = false ∧ s = 4) ∨ (((k : Int) % 2 == 1) = false ∧ s = 8) := by
            by_cases h : (k : Int) % 2 = 1
            · exact .inl (by simpa using h)
            · have h' : ((k : Int) % 2 == 1) = false := by simpa using h
              rcases Classical.em (s = 1) with h1 | h1
              · exact .inr (.inr (.inl ⟨h', h1⟩))
              · rcases Classical.em (s = 2) with h2 | h2
                · exact .inr (.inr (.inr (.inl ⟨h', h2⟩)))
                · rcases Classical.em (s = 4) with h4 | h4
                  · exact .inr (.inr (.inr (.inr (.inl ⟨h', h4⟩))))
                  · rcases Classical.em (s = 8) with h8 | h8
                    · exact .inr (.inr (.inr (.inr (.inr ⟨h', h8⟩))))
                    · exact .inr (.inl ⟨h', h1, h2, h4, h8⟩)
          have hll : (l.drop a).length = n - a := by have := HL.out; rw [List.length_drop]; omega
          obtain ⟨Aw, hAw⟩ : ∃ Aw, (if c = a then A else Option.map (fun x => x.add a) A) = Aw := ⟨_, rfl⟩
          have r0 : (0 : Int) ≤ (a : Int) := by omega
          have r1 : (a : Int) ≤ (n : Int) := by omega
          have r2 : (n : Int) ≤ (c : Int) := by omega
          have r3 : (a : Int) ≤ (c : Int) := by omega
          have hWayA : ∀ N, N ≤ n - a → Reads w w.heap.size 1 Aw N (bs ((l.drop a).take N)) := fun N hN => by
            have h := hr.cut (k := a) (cap := c) ha hc
            rw [Nat.mul_one, hAw, ← bs_drop] at h
            exact take_reads h hN
          have hR2 := hR
          have hB2 := hB
          clear hR hB
          by_cases hst : st = 0
          · subst hst
            have hst0 : True := trivial
            by_cases hneg : s < 0
            · have hbad : Bad 0 (l.drop a).length s 2 := .inr (.inl ⟨rfl, hneg, rfl⟩)
              have HRaw := Lib.hid (fun u hu => raw_bad p s (l.drop a) 0 2 u hu hbad)
              have HSt : Hid (∀ u, Calls Try.prog 18 #[.int .i64 a, .int .i64 s, .int .i64 n] u fun e w' => e = .returned (.tuple #[.int .i64 (a : Int), .int .i64 2]) ∧ u = w') := fun u => by
                have h := step_any a s n u (by omega) (by omega) (by omega) (by omega) (by omega)
                have e1 : stepTo a s n = (a : Int) := by unfold stepTo; (repeat' split) <;> omega
                have e2 : stepErr a s n = 2 := by unfold stepErr; (repeat' split) <;> omega
                rw [e1, e2] at h
                exact h
              clear hbad
              rcases hM with hp | ⟨hp, g1, g2, g4, g8⟩ | ⟨_, h⟩ | ⟨_, h⟩ | ⟨_, h⟩ | ⟨_, h⟩
              · clear hst0
                go_wp2_with fail
                refine (HSt.out _).mono ?_
                rintro e w' ⟨rfl, rfl⟩
                go_wp2_with fail
                refine (HRaw.out _ hR2).mono ?_
                rintro e w5 ⟨rfl, hR3, hG3⟩
                have hB3 : Below w.heap.size w w5 := hB2.grown hG3 hB2.size (by rintro j ⟨rfl⟩; exact hpw)
                have hWay5 : Reads w5 w5.heap.size 1 Aw 0 (bs []) := Way0 w5 Aw
                go_wp2_with fail
                refine (same_same none Aw 0 0 (c - a) [] w5 Reads.none_ hWay5 (by omega)).mono ?_
                rintro e w6 ⟨rfl, q6, rfl⟩
                have hR4 : Rd (w5.drewN q6) p (l.drop a) 2 := hR3
                have HLe : Hid (Calls Try.prog 25 #[.pointer (some ⟨p, 0, none⟩)] (w5.drewN q6) fun e w' => e = .returned (.int .i64 ((n : Int) - (a : Int))) ∧ w5.drewN q6 = w') := by
                  have h := left_any p (l.drop a) 2 _ hR4
                  rw [show (((l.drop a).length : Nat) : Int) = (n : Int) - (a : Int) by have := HL.out; rw [List.length_drop]; omega] at h
                  exact Lib.hid h
                have HWh : Hid (Calls Try.prog 27 #[.pointer (some ⟨p, 0, none⟩)] (w5.drewN q6) fun e w' => e = .returned (.bool false) ∧ w5.drewN q6 = w') := by
                  have h := whole_any p (l.drop a) 2 _ hR4
                  rw [show wholeB 2 (l.drop a).length = false by simp [wholeB]] at h
                  exact Lib.hid h
                have HEr : Hid (Calls Try.prog 26 #[.pointer (some ⟨p, 0, none⟩)] (w5.drewN q6) fun e w' => e = .returned (.int .i64 2) ∧ w5.drewN q6 = w') := err_any p _ 2 _ hR4
                have hB4 : Below w.heap.size w (w5.drewN q6) := below_drewN hB3 _
                clear hR3 hG3 hR2 hB2 hB3
                go_wp2_with fail
                refine HLe.out.mono ?_
                rintro e w' ⟨rfl, rfl⟩
                go_wp2_with fail
                refine HEr.out.mono ?_
                rintro e w' ⟨rfl, rfl⟩
                go_wp2_with fail
                refine HWh.out.mono ?_
                rintro e w' ⟨rfl, rfl⟩
                go_wp2
                go_roundw
                case rel => exact ⟨k + 1, a, 2, by omega, by go_num, rfl, rfl, by omega, hR4, hB4⟩
                case measure => simp [intOf]; omega
              · clear hst0
                have x1 : (s != 1) = true := by simp; omega
                have y1 : (s == 1) = false := by simp; omega
                have x2 : (s != 2) = true := by simp; omega
                have y2 : (s == 2) = false := by simp; omega
                have x4 : (s != 4) = true := by simp; omega
                have y4 : (s == 4) = false := by simp; omega
                have x8 : (s != 8) = true := by simp; omega
                have y8 : (s == 8) = false := by simp; omega
                clear g1 g2 g4 g8
                go_wp2_with fail
                refine (HSt.out _).mono ?_
                rintro e w' ⟨rfl, rfl⟩
                go_wp2_with fail
                refine (HRaw.out _ hR2).mono ?_
                rintro e w5 ⟨rfl, hR3, hG3⟩
                have hB3 : Below w.heap.size w w5 := hB2.grown hG3 hB2.size (by rintro j ⟨rfl⟩; exact hpw)
                have hWay5 : Reads w5 w5.heap.size 1 Aw 0 (bs []) := Way0 w5 Aw
                go_wp2_with fail
                refine (same_same none Aw 0 0 (c - a) [] w5 Reads.none_ hWay5 (by omega)).mono ?_
                rintro e w6 ⟨rfl, q6, rfl⟩
                have hR4 : Rd (w5.drewN q6) p (l.drop a) 2 := hR3
                have HLe : Hid (Calls Try.prog 25 #[.pointer (some ⟨p, 0, none⟩)] (w5.drewN q6) fun e w' => e = .returned (.int .i64 ((n : Int) - (a : Int))) ∧ w5.drewN q6 = w') := by
                  have h := left_any p (l.drop a) 2 _ hR4
                  rw [show (((l.drop a).length : Nat) : Int) = (n : Int) - (a : Int) by have := HL.out; rw [List.length_drop]; omega] at h
                  exact Lib.hid h
                have HWh : Hid (Calls Try.prog 27 #[.pointer (some ⟨p, 0, none⟩)] (w5.drewN q6) fun e w' => e = .returned (.bool false) ∧ w5.drewN q6 = w') := by
                  have h := whole_any p (l.drop a) 2 _ hR4
                  rw [show wholeB 2 (l.drop a).length = false by simp [wholeB]] at h
                  exact Lib.hid h
                have HEr : Hid (Calls Try.prog 26 #[.pointer (some ⟨p, 0, none⟩)] (w5.drewN q6) fun e w' => e = .returned (.int .i64 2) ∧ w5.drewN q6 = w') := err_any p _ 2 _ hR4
                have hB4 : Below w.heap.size w (w5.drewN q6) := below_drewN hB3 _
                clear hR3 hG3 hR2 hB2 hB3
                go_wp2_with fail
                refine HLe.out.mono ?_
                rintro e w' ⟨rfl, rfl⟩
                go_wp2_with fail
                refine HEr.out.mono ?_
                rintro e w' ⟨rfl, rfl⟩
                go_wp2_with fail
                refine HWh.out.mono ?_
                rintro e w' ⟨rfl, rfl⟩
                go_wp2
                go_roundw
                case rel => exact ⟨k + 1, a, 2, by omega, by go_num, rfl, rfl, by omega, hR4, hB4⟩
                case measure => simp [intOf]; omega
              all_goals (exfalso; omega)
            · by_cases hbig : (n : Int) - (a : Int) < s
              · have hbad : Bad 0 (l.drop a).length s 7 := .inr (.inr ⟨rfl, by omega, rfl⟩)
                have HRaw := Lib.hid (fun u hu => raw_bad p s (l.drop a) 0 7 u hu hbad)
                have HSt : Hid (∀ u, Calls Try.prog 18 #[.int .i64 a, .int .i64 s, .int .i64 n] u fun e w' => e = .returned (.tuple #[.int .i64 (a : Int), .int .i64 7]) ∧ u = w') := fun u => by
                  have h := step_any a s n u (by omega) (by omega) (by omega) (by omega) (by omega)
                  have e1 : stepTo a s n = (a : Int) := by unfold stepTo; (repeat' split) <;> omega
                  have e2 : stepErr a s n = 7 := by unfold stepErr; (repeat' split) <;> omega
                  rw [e1, e2] at h
                  exact h
                rcases hM with hp | ⟨hp, g1, g2, g4, g8⟩ | ⟨hp, hs⟩ | ⟨hp, hs⟩ | ⟨hp, hs⟩ | ⟨hp, hs⟩
                · clear hst0
                  go_wp2_with fail
                  refine (HSt.out _).mono ?_
                  rintro e w' ⟨rfl, rfl⟩
                  go_wp2_with fail
                  refine (HRaw.out _ hR2).mono ?_
                  rintro e w5 ⟨rfl, hR3, hG3⟩
                  have hB3 : Below w.heap.size w w5 := hB2.grown hG3 hB2.size (by rintro j ⟨rfl⟩; exact hpw)
                  have hWay5 : Reads w5 w5.heap.size 1 Aw 0 (bs []) := Way0 w5 Aw
                  go_wp2_with fail
                  refine (same_same none Aw 0 0 (c - a) [] w5 Reads.none_ hWay5 (by omega)).mono ?_
                  rintro e w6 ⟨rfl, q6, rfl⟩
                  have hR4 : Rd (w5.drewN q6) p (l.drop a) 7 := hR3
                  have HLe : Hid (Calls Try.prog 25 #[.pointer (some ⟨p, 0, none⟩)] (w5.drewN q6) fun e w' => e = .returned (.int .i64 ((n : Int) - (a : Int))) ∧ w5.drewN q6 = w') := by
                    have h := left_any p (l.drop a) 7 _ hR4
                    rw [show (((l.drop a).length : Nat) : Int) = (n : Int) - (a : Int) by have := HL.out; rw [List.length_drop]; omega] at h
                    exact Lib.hid h
                  have HWh : Hid (Calls Try.prog 27 #[.pointer (some ⟨p, 0, none⟩)] (w5.drewN q6) fun e w' => e = .returned (.bool false) ∧ w5.drewN q6 = w') := by
                    have h := whole_any p (l.drop a) 7 _ hR4
                    rw [show wholeB 7 (l.drop a).length = false by simp [wholeB]] at h
                    exact Lib.hid h
                  have HEr : Hid (Calls Try.prog 26 #[.pointer (some ⟨p, 0, none⟩)] (w5.drewN q6) fun e w' => e = .returned (.int .i64 7) ∧ w5.drewN q6 = w') := err_any p _ 7 _ hR4
                  have hB4 : Below w.heap.size w (w5.drewN q6) := below_drewN hB3 _
                  clear hR3 hG3 hR2 hB2 hB3
                  go_wp2_with fail
                  refine HLe.out.mono ?_
                  rintro e w' ⟨rfl, rfl⟩
                  go_wp2_with fail
                  refine HEr.out.mono ?_
                  rintro e w' ⟨rfl, rfl⟩
                  go_wp2_with fail
                  refine HWh.out.mono ?_
                  rintro e w' ⟨rfl, rfl⟩
                  go_wp2
                  go_roundw
                  case rel => exact ⟨k + 1, a, 7, by omega, by go_num, rfl, rfl, by omega, hR4, hB4⟩
                  case measure => simp [intOf]; omega
                · clear hst0
                  have x1 : (s != 1) = true := by simp; omega
                  have y1 : (s == 1) = false := by simp; omega
                  have x2 : (s != 2) = true := by simp; omega
                  have y2 : (s == 2) = false := by simp; omega
                  have x4 : (s != 4) = true := by simp; omega
                  have y4 : (s == 4) = false := by simp; omega
                  have x8 : (s != 8) = true := by simp; omega
                  have y8 : (s == 8) = false := by simp; omega
                  clear g1 g2 g4 g8
                  go_wp2_with fail
                  refine (HSt.out _).mono ?_
                  rintro e w' ⟨rfl, rfl⟩
                  go_wp2_with fail
                  refine (HRaw.out _ hR2).mono ?_
                  rintro e w5 ⟨rfl, hR3, hG3⟩
                  have hB3 : Below w.heap.size w w5 := hB2.grown hG3 hB2.size (by rintro j ⟨rfl⟩; exact hpw)
                  have hWay5 : Reads w5 w5.heap.size 1 Aw 0 (bs []) := Way0 w5 Aw
                  go_wp2_with fail
                  refine (same_same none Aw 0 0 (c - a) [] w5 Reads.none_ hWay5 (by omega)).mono ?_
                  rintro e w6 ⟨rfl, q6, rfl⟩
                  have hR4 : Rd (w5.drewN q6) p (l.drop a) 7 := hR3
                  have HLe : Hid (Calls Try.prog 25 #[.pointer (some ⟨p, 0, none⟩)] (w5.drewN q6) fun e w' => e = .returned (.int .i64 ((n : Int) - (a : Int))) ∧ w5.drewN q6 = w') := by
                    have h := left_any p (l.drop a) 7 _ hR4
                    rw [show (((l.drop a).length : Nat) : Int) = (n : Int) - (a : Int) by have := HL.out; rw [List.length_drop]; omega] at h
                    exact Lib.hid h
                  have HWh : Hid (Calls Try.prog 27 #[.pointer (some ⟨p, 0, none⟩)] (w5.drewN q6) fun e w' => e = .returned (.bool false) ∧ w5.drewN q6 = w') := by
                    have h := whole_any p (l.drop a) 7 _ hR4
                    rw [show wholeB 7 (l.drop a).length = false by simp [wholeB]] at h
                    exact Lib.hid h
                  have HEr : Hid (Calls Try.prog 26 #[.pointer (some ⟨p, 0, none⟩)] (w5.drewN q6) fun e w' => e = .returned (.int .i64 7) ∧ w5.drewN q6 = w') := err_any p _ 7 _ hR4
                  have hB4 : Below w.heap.size w (w5.drewN q6) := below_drewN hB3 _
                  clear hR3 hG3 hR2 hB2 hB3
                  go_wp2_with fail
                  refine HLe.out.mono ?_
                  rintro e w' ⟨rfl, rfl⟩
                  go_wp2_with fail
                  refine HEr.out.mono ?_
                  rintro e w' ⟨rfl, rfl⟩
                  go_wp2_with fail
                  refine HWh.out.mono ?_
                  rintro e w' ⟨rfl, rfl⟩
                  go_wp2
                  go_roundw
                  case rel => exact ⟨k + 1, a, 7, by omega, by go_num, rfl, rfl, by omega, hR4, hB4⟩
                  case measure => simp [intOf]; omega
                · clear hst0
                  subst hs
                  go_wp2_with fail
                  refine (HSt.out _).mono ?_
                  rintro e w' ⟨rfl, rfl⟩
                  have HU := Lib.hid (fun u hu => u8_bad p (l.drop a) 0 7 u hu hbad)
                  clear hbad
                  go_wp2_with fail
                  refine (HU.out _ hR2).mono ?_
                  rintro e w5 ⟨rfl, hR3, hG3⟩
                  have hB3 : Below w.heap.size w w5 := hB2.grown hG3 hB2.size (by rintro j ⟨rfl⟩; exact hpw)
                  have HN : Hid (Calls Try.prog 21 #[.slice Aw 0 (c - a)] w5 (Draws (.int .u64 0) w5)) := rnumber_any 0 Aw (c - a) [] w5 rfl (Nat.zero_le _) (Way0 w5 Aw) (by omega)
                  go_wp2_with fail
                  refine HN.out.mono ?_
                  rintro e w6 ⟨rfl, q6, rfl⟩
                  have hR4 : Rd (w5.drewN q6) p (l.drop a) 7 := hR3
                  have HLe : Hid (Calls Try.prog 25 #[.pointer (some ⟨p, 0, none⟩)] (w5.drewN q6) fun e w' => e = .returned (.int .i64 ((n : Int) - (a : Int))) ∧ w5.drewN q6 = w') := by
                    have h := left_any p (l.drop a) 7 _ hR4
                    rw [show (((l.drop a).length : Nat) : Int) = (n : Int) - (a : Int) by have := HL.out; rw [List.length_drop]; omega] at h
                    exact Lib.hid h
                  have HWh : Hid (Calls Try.prog 27 #[.pointer (some ⟨p, 0, none⟩)] (w5.drewN q6) fun e w' => e = .returned (.bool false) ∧ w5.drewN q6 = w') := by
                    have h := whole_any p (l.drop a) 7 _ hR4
                    rw [show wholeB 7 (l.drop a).length = false by simp [wholeB]] at h
                    exact Lib.hid h
                  have HEr : Hid (Calls Try.prog 26 #[.pointer (some ⟨p, 0, none⟩)] (w5.drewN q6) fun e w' => e = .returned (.int .i64 7) ∧ w5.drewN q6 = w') := err_any p _ 7 _ hR4
                  have hB4 : Below w.heap.size w (w5.drewN q6) := below_drewN hB3 _
                  clear hR3 hG3 hR2 hB2 hB3
                  go_wp2_with fail
                  refine HLe.out.mono ?_
                  rintro e w' ⟨rfl, rfl⟩
                  go_wp2_with fail
                  refine HEr.out.mono ?_
                  rintro e w' ⟨rfl, rfl⟩
                  go_wp2_with fail
                  refine HWh.out.mono ?_
                  rintro e w' ⟨rfl, rfl⟩
                  go_wp2
                  go_roundw
                  case rel => exact ⟨k + 1, a, 7, by omega, by go_num, rfl, rfl, by omega, hR4, hB4⟩
                  case measure => simp [intOf]; omega
                · clear hst0
                  subst hs
                  go_wp2_with fail
                  refine (HSt.out _).mono ?_
                  rintro e w' ⟨rfl, rfl⟩
                  have HU := Lib.hid (fun u hu => u16_bad p (l.drop a) 0 7 u hu hbad)
                  clear hbad
                  go_wp2_with fail
                  refine (HU.out _ hR2).mono ?_
                  rintro e w5 ⟨rfl, hR3, hG3⟩
                  have hB3 : Below w.heap.size w w5 := hB2.grown hG3 hB2.size (by rintro j ⟨rfl⟩; exact hpw)
                  have HN : Hid (Calls Try.prog 21 #[.slice Aw 0 (c - a)] w5 (Draws (.int .u64 0) w5)) := rnumber_any 0 Aw (c - a) [] w5 rfl (Nat.zero_le _) (Way0 w5 Aw) (by omega)
                  go_wp2_with fail
                  refine HN.out.mono ?_
                  rintro e w6 ⟨rfl, q6, rfl⟩
                  have hR4 : Rd (w5.drewN q6) p (l.drop a) 7 := hR3
                  have HLe : Hid (Calls Try.prog 25 #[.pointer (some ⟨p, 0, none⟩)] (w5.drewN q6) fun e w' => e = .returned (.int .i64 ((n : Int) - (a : Int))) ∧ w5.drewN q6 = w') := by
                    have h := left_any p (l.drop a) 7 _ hR4
                    rw [show (((l.drop a).length : Nat) : Int) = (n : Int) - (a : Int) by have := HL.out; rw [List.length_drop]; omega] at h
                    exact Lib.hid h
                  have HWh : Hid (Calls Try.prog 27 #[.pointer (some ⟨p, 0, none⟩)] (w5.drewN q6) fun e w' => e = .returned (.bool false) ∧ w5.drewN q6 = w') := by
                    have h := whole_any p (l.drop a) 7 _ hR4
                    rw [show wholeB 7 (l.drop a).length = false by simp [wholeB]] at h
                    exact Lib.hid h
                  have HEr : Hid (Calls Try.prog 26 #[.pointer (some ⟨p, 0, none⟩)] (w5.drewN q6) fun e w' => e = .returned (.int .i64 7) ∧ w5.drewN q6 = w') := err_any p _ 7 _ hR4
                  have hB4 : Below w.heap.size w (w5.drewN q6) := below_drewN hB3 _
                  clear hR3 hG3 hR2 hB2 hB3
                  go_wp2_with fail
                  refine HLe.out.mono ?_
                  rintro e w' ⟨rfl, rfl⟩
                  go_wp2_with fail
                  refine HEr.out.mono ?_
                  rintro e w' ⟨rfl, rfl⟩
                  go_wp2_with fail
                  refine HWh.out.mono ?_
                  rintro e w' ⟨rfl, rfl⟩
                  go_wp2
                  go_roundw
                  case rel => exact ⟨k + 1, a, 7, by omega, by go_num, rfl, rfl, by omega, hR4, hB4⟩
                  case measure => simp [intOf]; omega
                · clear hst0
                  subst hs
                  go_wp2_with fail
                  refine (HSt.out _).mono ?_
                  rintro e w' ⟨rfl, rfl⟩
                  have HU := Lib.hid (fun u hu => u32_bad p (l.drop a) 0 7 u hu hbad)
                  clear hbad
                  go_wp2_with fail
                  refine (HU.out _ hR2).mono ?_
                  rintro e w5 ⟨rfl, hR3, hG3⟩
                  have hB3 : Below w.heap.size w w5 := hB2.grown hG3 hB2.size (by rintro j ⟨rfl⟩; exact hpw)
                  have HN : Hid (Calls Try.prog 21 #[.slice Aw 0 (c - a)] w5 (Draws (.int .u64 0) w5)) := rnumber_any 0 Aw (c - a) [] w5 rfl (Nat.zero_le _) (Way0 w5 Aw) (by omega)
                  go_wp2_with fail
                  refine HN.out.mono ?_
                  rintro e w6 ⟨rfl, q6, rfl⟩
                  have hR4 : Rd (w5.drewN q6) p (l.drop a) 7 := hR3
                  have HLe : Hid (Calls Try.prog 25 #[.pointer (some ⟨p, 0, none⟩)] (w5.drewN q6) fun e w' => e = .returned (.int .i64 ((n : Int) - (a : Int))) ∧ w5.drewN q6 = w') := by
                    have h := left_any p (l.drop a) 7 _ hR4
                    rw [show (((l.drop a).length : Nat) : Int) = (n : Int) - (a : Int) by have := HL.out; rw [List.length_drop]; omega] at h
                    exact Lib.hid h
                  have HWh : Hid (Calls Try.prog 27 #[.pointer (some ⟨p, 0, none⟩)] (w5.drewN q6) fun e w' => e = .returned (.bool false) ∧ w5.drewN q6 = w') := by
                    have h := whole_any p (l.drop a) 7 _ hR4
                    rw [show wholeB 7 (l.drop a).length = false by simp [wholeB]] at h
                    exact Lib.hid h
                  have HEr : Hid (Calls Try.prog 26 #[.pointer (some ⟨p, 0, none⟩)] (w5.drewN q6) fun e w' => e = .returned (.int .i64 7) ∧ w5.drewN q6 = w') := err_any p _ 7 _ hR4
                  have hB4 : Below w.heap.size w (w5.drewN q6) := below_drewN hB3 _
                  clear hR3 hG3 hR2 hB2 hB3
                  go_wp2_with fail
                  refine HLe.out.mono ?_
                  rintro e w' ⟨rfl, rfl⟩
                  go_wp2_with fail
                  refine HEr.out.mono ?_
                  rintro e w' ⟨rfl, rfl⟩
                  go_wp2_with fail
                  refine HWh.out.mono ?_
                  rintro e w' ⟨rfl, rfl⟩
                  go_wp2
                  go_roundw
                  case rel => exact ⟨k + 1, a, 7, by omega, by go_num, rfl, rfl, by omega, hR4, hB4⟩
                  case measure => simp [intOf]; omega
                · clear hst0
                  subst hs
                  go_wp2_with fail
                  refine (HSt.out _).mono ?_
                  rintro e w' ⟨rfl, rfl⟩
                  have HU := Lib.hid (fun u hu => u64_bad p (l.drop a) 0 7 u hu hbad)
                  clear hbad
                  go_wp2_with fail
                  refine (HU.out _ hR2).mono ?_
                  rintro e w5 ⟨rfl, hR3, hG3⟩
                  have hB3 : Below w.heap.size w w5 := hB2.grown hG3 hB2.size (by rintro j ⟨rfl⟩; exact hpw)
                  have HN : Hid (Calls Try.prog 21 #[.slice Aw 0 (c - a)] w5 (Draws (.int .u64 0) w5)) := rnumber_any 0 Aw (c - a) [] w5 rfl (Nat.zero_le _) (Way0 w5 Aw) (by omega)
                  go_wp2_with fail
                  refine HN.out.mono ?_
                  rintro e w6 ⟨rfl, q6, rfl⟩
                  have hR4 : Rd (w5.drewN q6) p (l.drop a) 7 := hR3
                  have HLe : Hid (Calls Try.prog 25 #[.pointer (some ⟨p, 0, none⟩)] (w5.drewN q6) fun e w' => e = .returned (.int .i64 ((n : Int) - (a : Int))) ∧ w5.drewN q6 = w') := by
                    have h := left_any p (l.drop a) 7 _ hR4
                    rw [show (((l.drop a).length : Nat) : Int) = (n : Int) - (a : Int) by have := HL.out; rw [List.length_drop]; omega] at h
                    exact Lib.hid h
                  have HWh : Hid (Calls Try.prog 27 #[.pointer (some ⟨p, 0, none⟩)] (w5.drewN q6) fun e w' => e = .returned (.bool false) ∧ w5.drewN q6 = w') := by
                    have h := whole_any p (l.drop a) 7 _ hR4
                    rw [show wholeB 7 (l.drop a).length = false by simp [wholeB]] at h
                    exact Lib.hid h
                  have HEr : Hid (Calls Try.prog 26 #[.pointer (some ⟨p, 0, none⟩)] (w5.drewN q6) fun e w' => e = .returned (.int .i64 7) ∧ w5.drewN q6 = w') := err_any p _ 7 _ hR4
                  have hB4 : Below w.heap.size w (w5.drewN q6) := below_drewN hB3 _
                  clear hR3 hG3 hR2 hB2 hB3
                  go_wp2_with fail
                  refine HLe.out.mono ?_
                  rintro e w' ⟨rfl, rfl⟩
                  go_wp2_with fail
                  refine HEr.out.mono ?_
                  rintro e w' ⟨rfl, rfl⟩
                  go_wp2_with fail
                  refine HWh.out.mono ?_
                  rintro e w' ⟨rfl, rfl⟩
                  go_wp2
                  go_roundw
                  case rel => exact ⟨k + 1, a, 7, by omega, by go_num, rfl, rfl, by omega, hR4, hB4⟩
                  case measure => simp [intOf]; omega
              · obtain ⟨N, rfl⟩ := Int.eq_ofNat_of_zero_le (show 0 ≤ s by omega)
                have hN : N ≤ n - a := by omega
                have HRaw := Lib.hid (fun u hu => raw_ok p N (l.drop a) u hu (by omega) (by omega))
                have hWay := hWayA N hN
                have r4 : (0 : Int) ≤ (N : Int) := by omega
                have r5 : (a : Int) + (N : Int) ≤ (n : Int) := by omega
                have r6 : (a : Int) ≤ (a : Int) + (N : Int) := by omega
                have r7 : (a : Int) + (N : Int) ≤ (c : Int) := by omega
                have HSt : Hid (∀ u, Calls Try.prog 18 #[.int .i64 a, .int .i64 N, .int .i64 n] u fun e w' => e = .returned (.tuple #[.int .i64 ((a : Int) + (N : Int)), .int .i64 0]) ∧ u = w') := fun u => by
                  have h := step_any a N n u (by omega) (by omega) (by omega) (by omega) (by omega)
                  have e1 : stepTo a N n = ((a : Int) + (N : Int)) := by unfold stepTo; (repeat' split) <;> omega
                  have e2 : stepErr a N n = 0 := by unfold stepErr; (repeat' split) <;> omega
                  rw [e1, e2] at h
                  exact h
                rcases hM with hp | ⟨hp, g1, g2, g4, g8⟩ | ⟨hp, hs⟩ | ⟨hp, hs⟩ | ⟨hp, hs⟩ | ⟨hp, hs⟩
                · clear hst0
                  go_wp2_with fail
                  refine (HSt.out _).mono ?_
                  rintro e w' ⟨rfl, rfl⟩
                  go_wp2_with fail
                  refine (HRaw.out _ hR2).mono ?_
                  rintro e w5 ⟨⟨Ar, cr, rfl, hO5⟩, hR3, hG3⟩
                  have hB3 : Below w.heap.size w w5 := hB2.grown hG3 hB2.size (by rintro j ⟨rfl⟩; exact hpw)
                  have hWay5 : Reads w5 w5.heap.size 1 Aw N (bs ((l.drop a).take N)) := (hWay.below hB3).more hB3.size
                  go_wp2_with fail
                  refine (same_same Ar Aw N cr (c - a) ((l.drop a).take N) w5 hO5.reads hWay5 (by omega)).mono ?_
                  rintro e w6 ⟨rfl, q6, rfl⟩
                  have hR4 : Rd (w5.drewN q6) p (l.drop (a + N)) 0 := by rw [← List.drop_drop]; exact hR3
                  obtain ⟨bb, hbb⟩ : ∃ bb : Bool, (((a : Int) + (N : Int)) == (n : Int)) = bb := ⟨_, rfl⟩
                  have HLe : Hid (Calls Try.prog 25 #[.pointer (some ⟨p, 0, none⟩)] (w5.drewN q6) fun e w' => e = .returned (.int .i64 ((n : Int) - ((a : Int) + (N : Int)))) ∧ w5.drewN q6 = w') := by
                    have h := left_any p (l.drop (a + N)) 0 _ hR4
                    rw [show (((l.drop (a + N)).length : Nat) : Int) = (n : Int) - ((a : Int) + (N : Int)) by have := HL.out; rw [List.length_drop]; omega] at h
                    exact Lib.hid h
                  have HWh : Hid (Calls Try.prog 27 #[.pointer (some ⟨p, 0, none⟩)] (w5.drewN q6) fun e w' => e = .returned (.bool bb) ∧ w5.drewN q6 = w') := by
                    have h := whole_any p (l.drop (a + N)) 0 _ hR4
                    rw [show wholeB 0 (l.drop (a + N)).length = bb by rw [← hbb]; have := HL.out; simp only [wholeB, List.length_drop, beq_self_eq_true, Bool.true_and]; rw [Bool.eq_iff_iff]; simp; omega] at h
                    exact Lib.hid h
                  have HEr : Hid (Calls Try.prog 26 #[.pointer (some ⟨p, 0, none⟩)] (w5.drewN q6) fun e w' => e = .returned (.int .i64 0) ∧ w5.drewN q6 = w') := err_any p _ 0 _ hR4
                  have hB4 : Below w.heap.size w (w5.drewN q6) := below_drewN hB3 _
                  clear hR3 hG3 hR2 hB2 hB3
                  go_wp2_with fail
                  refine HLe.out.mono ?_
                  rintro e w' ⟨rfl, rfl⟩
                  go_wp2_with fail
                  refine HEr.out.mono ?_
                  rintro e w' ⟨rfl, rfl⟩
                  go_wp2_with fail
                  refine HWh.out.mono ?_
                  rintro e w' ⟨rfl, rfl⟩
                  go_wp2
                  go_roundw
                  case rel => exact ⟨k + 1, a + N, 0, by omega, by go_num, by go_num, rfl, by omega, hR4, hB4⟩
                  case measure => simp [intOf]; omega
                · clear hst0
                  have x1 : ((N : Int) != 1) = true := by simp; omega
                  have y1 : ((N : Int) == 1) = false := by simp; omega
                  have x2 : ((N : Int) != 2) = true := by simp; omega
                  have y2 : ((N : Int) == 2) = false := by simp; omega
                  have x4 : ((N : Int) != 4) = true := by simp; omega
                  have y4 : ((N : Int) == 4) = false := by simp; omega
                  have x8 : ((N : Int) != 8) = true := by simp; omega
                  have y8 : ((N : Int) == 8) = false := by simp; omega
                  clear g1 g2 g4 g8
                  go_wp2_with fail
                  refine (HSt.out _).mono ?_
                  rintro e w' ⟨rfl, rfl⟩
                  go_wp2_with fail
                  refine (HRaw.out _ hR2).mono ?_
                  rintro e w5 ⟨⟨Ar, cr, rfl, hO5⟩, hR3, hG3⟩
                  have hB3 : Below w.heap.size w w5 := hB2.grown hG3 hB2.size (by rintro j ⟨rfl⟩; exact hpw)
                  have hWay5 : Reads w5 w5.heap.size 1 Aw N (bs ((l.drop a).take N)) := (hWay.below hB3).more hB3.size
                  go_wp2_with fail
                  refine (same_same Ar Aw N cr (c - a) ((l.drop a).take N) w5 hO5.reads hWay5 (by omega)).mono ?_
                  rintro e w6 ⟨rfl, q6, rfl⟩
                  have hR4 : Rd (w5.drewN q6) p (l.drop (a + N)) 0 := by rw [← List.drop_drop]; exact hR3
                  obtain ⟨bb, hbb⟩ : ∃ bb : Bool, (((a : Int) + (N : Int)) == (n : Int)) = bb := ⟨_, rfl⟩
                  have HLe : Hid (Calls Try.prog 25 #[.pointer (some ⟨p, 0, none⟩)] (w5.drewN q6) fun e w' => e = .returned (.int .i64 ((n : Int) - ((a : Int) + (N : Int)))) ∧ w5.drewN q6 = w') := by
                    have h := left_any p (l.drop (a + N)) 0 _ hR4
                    rw [show (((l.drop (a + N)).length : Nat) : Int) = (n : Int) - ((a : Int) + (N : Int)) by have := HL.out; rw [List.length_drop]; omega] at h
                    exact Lib.hid h
                  have HWh : Hid (Calls Try.prog 27 #[.pointer (some ⟨p, 0, none⟩)] (w5.drewN q6) fun e w' => e = .returned (.bool bb) ∧ w5.drewN q6 = w') := by
                    have h := whole_any p (l.drop (a + N)) 0 _ hR4
                    rw [show wholeB 0 (l.drop (a + N)).length = bb by rw [← hbb]; have := HL.out; simp only [wholeB, List.length_drop, beq_self_eq_true, Bool.true_and]; rw [Bool.eq_iff_iff]; simp; omega] at h
                    exact Lib.hid h
                  have HEr : Hid (Calls Try.prog 26 #[.pointer (some ⟨p, 0, none⟩)] (w5.drewN q6) fun e w' => e = .returned (.int .i64 0) ∧ w5.drewN q6 = w') := err_any p _ 0 _ hR4
                  have hB4 : Below w.heap.size w (w5.drewN q6) := below_drewN hB3 _
                  clear hR3 hG3 hR2 hB2 hB3
                  go_wp2_with fail
                  refine HLe.out.mono ?_
                  rintro e w' ⟨rfl, rfl⟩
                  go_wp2_with fail
                  refine HEr.out.mono ?_
                  rintro e w' ⟨rfl, rfl⟩
                  go_wp2_with fail
                  refine HWh.out.mono ?_
                  rintro e w' ⟨rfl, rfl⟩
                  go_wp2
                  go_roundw
                  case rel => exact ⟨k + 1, a + N, 0, by omega, by go_num, by go_num, rfl, by omega, hR4, hB4⟩
                  case measure => simp [intOf]; omega
                · clear hst0
                  obtain rfl : N = 1 := by omega
                  clear hs
                  go_wp2_with fail
                  refine (HSt.out _).mono ?_
                  rintro e w' ⟨rfl, rfl⟩
                  have HU := Lib.hid (fun u hu => u8_ok p (l.drop a) u hu (by omega))
                  have hnb : (num ((l.drop a).take 1) : Int) < 256 := by have := num_take_lt (l.drop a) 1; omega
                  have hwr : IntKind.u64.wrap (num ((l.drop a).take 1) : Int) = (num ((l.drop a).take 1) : Int) := by rw [IntKind.wrap_u64]; omega
                  have HNn := Lib.hid (fun u hr => rnumber_any 1 Aw (c - a) ((l.drop a).take 1) u (by have := HL.out; simp; omega) (by omega) hr (by omega))
                  generalize hQ : num ((l.drop a).take 1) = Q at HU hnb hwr HNn
                  clear hQ
                  go_wp2_with fail
                  refine (HU.out _ hR2).mono ?_
                  rintro e w5 ⟨rfl, hR3, hG3⟩
                  have hB3 : Below w.heap.size w w5 := hB2.grown hG3 hB2.size (by rintro j ⟨rfl⟩; exact hpw)
                  have hWay5 : Reads w5 w5.heap.size 1 Aw 1 (bs ((l.drop a).take 1)) := (hWay.below hB3).more hB3.size
                  go_wp2_with fail
                  refine (HNn.out _ hWay5).mono ?_
                  rintro e w6 ⟨rfl, q6, rfl⟩
                  have hR4 : Rd (w5.drewN q6) p (l.drop (a + 1)) 0 := by rw [← List.drop_drop]; exact hR3
                  obtain ⟨bb, hbb⟩ : ∃ bb : Bool, (((a : Int) + 1) == (n : Int)) = bb := ⟨_, rfl⟩
                  have HLe : Hid (Calls Try.prog 25 #[.pointer (some ⟨p, 0, none⟩)] (w5.drewN q6) fun e w' => e = .returned (.int .i64 ((n : Int) - ((a : Int) + 1))) ∧ w5.drewN q6 = w') := by
                    have h := left_any p (l.drop (a + 1)) 0 _ hR4
                    rw [show (((l.drop (a + 1)).length : Nat) : Int) = (n : Int) - ((a : Int) + 1) by have := HL.out; rw [List.length_drop]; omega] at h
                    exact Lib.hid h
                  have HWh : Hid (Calls Try.prog 27 #[.pointer (some ⟨p, 0, none⟩)] (w5.drewN q6) fun e w' => e = .returned (.bool bb) ∧ w5.drewN q6 = w') := by
                    have h := whole_any p (l.drop (a + 1)) 0 _ hR4
                    rw [show wholeB 0 (l.drop (a + 1)).length = bb by rw [← hbb]; have := HL.out; simp only [wholeB, List.length_drop, beq_self_eq_true, Bool.true_and]; rw [Bool.eq_iff_iff]; simp; omega] at h
                    exact Lib.hid h
                  have HEr : Hid (Calls Try.prog 26 #[.pointer (some ⟨p, 0, none⟩)] (w5.drewN q6) fun e w' => e = .returned (.int .i64 0) ∧ w5.drewN q6 = w') := err_any p _ 0 _ hR4
                  have hB4 : Below w.heap.size w (w5.drewN q6) := below_drewN hB3 _
                  clear hR3 hG3 hR2 hB2 hB3
                  go_wp2_with fail
                  refine HLe.out.mono ?_
                  rintro e w' ⟨rfl, rfl⟩
                  go_wp2_with fail
                  refine HEr.out.mono ?_
                  rintro e w' ⟨rfl, rfl⟩
                  go_wp2_with fail
                  refine HWh.out.mono ?_
                  rintro e w' ⟨rfl, rfl⟩
                  go_wp2
                  go_roundw
                  case rel => exact ⟨k + 1, a + 1, 0, by omega, by go_num, by go_num, rfl, by omega, hR4, hB4⟩
                  case measure => simp [intOf]; omega
                · clear hst0
                  obtain rfl : N = 2 := by omega
                  clear hs
                  go_wp2_with fail
                  refine (HSt.out _).mono ?_
                  rintro e w' ⟨rfl, rfl⟩
                  have HU := Lib.hid (fun u hu => u16_ok p (l.drop a) u hu (by omega))
                  have hnb : (num ((l.drop a).take 2) : Int) < 65536 := by have := num_take_lt (l.drop a) 2; omega
                  have hwr : IntKind.u64.wrap (num ((l.drop a).take 2) : Int) = (num ((l.drop a).take 2) : Int) := by rw [IntKind.wrap_u64]; omega
                  have HNn := Lib.hid (fun u hr => rnumber_any 2 Aw (c - a) ((l.drop a).take 2) u (by have := HL.out; simp; omega) (by omega) hr (by omega))
                  generalize hQ : num ((l.drop a).take 2) = Q at HU hnb hwr HNn
                  clear hQ
                  go_wp2_with fail
                  refine (HU.out _ hR2).mono ?_
                  rintro e w5 ⟨rfl, hR3, hG3⟩
                  have hB3 : Below w.heap.size w w5 := hB2.grown hG3 hB2.size (by rintro j ⟨rfl⟩; exact hpw)
                  have hWay5 : Reads w5 w5.heap.size 1 Aw 2 (bs ((l.drop a).take 2)) := (hWay.below hB3).more hB3.size
                  go_wp2_with fail
                  refine (HNn.out _ hWay5).mono ?_
                  rintro e w6 ⟨rfl, q6, rfl⟩
                  have hR4 : Rd (w5.drewN q6) p (l.drop (a + 2)) 0 := by rw [← List.drop_drop]; exact hR3
                  obtain ⟨bb, hbb⟩ : ∃ bb : Bool, (((a : Int) + 2) == (n : Int)) = bb := ⟨_, rfl⟩
                  have HLe : Hid (Calls Try.prog 25 #[.pointer (some ⟨p, 0, none⟩)] (w5.drewN q6) fun e w' => e = .returned (.int .i64 ((n : Int) - ((a : Int) + 2))) ∧ w5.drewN q6 = w') := by
                    have h := left_any p (l.drop (a + 2)) 0 _ hR4
                    rw [show (((l.drop (a + 2)).length : Nat) : Int) = (n : Int) - ((a : Int) + 2) by have := HL.out; rw [List.length_drop]; omega] at h
                    exact Lib.hid h
                  have HWh : Hid (Calls Try.prog 27 #[.pointer (some ⟨p, 0, none⟩)] (w5.drewN q6) fun e w' => e = .returned (.bool bb) ∧ w5.drewN q6 = w') := by
                    have h := whole_any p (l.drop (a + 2)) 0 _ hR4
                    rw [show wholeB 0 (l.drop (a + 2)).length = bb by rw [← hbb]; have := HL.out; simp only [wholeB, List.length_drop, beq_self_eq_true, Bool.true_and]; rw [Bool.eq_iff_iff]; simp; omega] at h
                    exact Lib.hid h
                  have HEr : Hid (Calls Try.prog 26 #[.pointer (some ⟨p, 0, none⟩)] (w5.drewN q6) fun e w' => e = .returned (.int .i64 0) ∧ w5.drewN q6 = w') := err_any p _ 0 _ hR4
                  have hB4 : Below w.heap.size w (w5.drewN q6) := below_drewN hB3 _
                  clear hR3 hG3 hR2 hB2 hB3
                  go_wp2_with fail
                  refine HLe.out.mono ?_
                  rintro e w' ⟨rfl, rfl⟩
                  go_wp2_with fail
                  refine HEr.out.mono ?_
                  rintro e w' ⟨rfl, rfl⟩
                  go_wp2_with fail
                  refine HWh.out.mono ?_
                  rintro e w' ⟨rfl, rfl⟩
                  go_wp2
                  go_roundw
                  case rel => exact ⟨k + 1, a + 2, 0, by omega, by go_num, by go_num, rfl, by omega, hR4, hB4⟩
                  case measure => simp [intOf]; omega
                · clear hst0
                  obtain rfl : N = 4 := by omega
                  clear hs
                  go_wp2_with fail
                  refine (HSt.out _).mono ?_
                  rintro e w' ⟨rfl, rfl⟩
                  have HU := Lib.hid (fun u hu => u32_ok p (l.drop a) u hu (by omega))
                  have hnb : (num ((l.drop a).take 4) : Int) < 4294967296 := by have := num_take_lt (l.drop a) 4; omega
                  have hwr : IntKind.u64.wrap (num ((l.drop a).take 4) : Int) = (num ((l.drop a).take 4) : Int) := by rw [IntKind.wrap_u64]; omega
                  have HNn := Lib.hid (fun u hr => rnumber_any 4 Aw (c - a) ((l.drop a).take 4) u (by have := HL.out; simp; omega) (by omega) hr (by omega))
                  generalize hQ : num ((l.drop a).take 4) = Q at HU hnb hwr HNn
                  clear hQ
                  go_wp2_with fail
                  refine (HU.out _ hR2).mono ?_
                  rintro e w5 ⟨rfl, hR3, hG3⟩
                  have hB3 : Below w.heap.size w w5 := hB2.grown hG3 hB2.size (by rintro j ⟨rfl⟩; exact hpw)
                  have hWay5 : Reads w5 w5.heap.size 1 Aw 4 (bs ((l.drop a).take 4)) := (hWay.below hB3).more hB3.size
                  go_wp2_with fail
                  refine (HNn.out _ hWay5).mono ?_
                  rintro e w6 ⟨rfl, q6, rfl⟩
                  have hR4 : Rd (w5.drewN q6) p (l.drop (a + 4)) 0 := by rw [← List.drop_drop]; exact hR3
                  obtain ⟨bb, hbb⟩ : ∃ bb : Bool, (((a : Int) + 4) == (n : Int)) = bb := ⟨_, rfl⟩
                  have HLe : Hid (Calls Try.prog 25 #[.pointer (some ⟨p, 0, none⟩)] (w5.drewN q6) fun e w' => e = .returned (.int .i64 ((n : Int) - ((a : Int) + 4))) ∧ w5.drewN q6 = w') := by
                    have h := left_any p (l.drop (a + 4)) 0 _ hR4
                    rw [show (((l.drop (a + 4)).length : Nat) : Int) = (n : Int) - ((a : Int) + 4) by have := HL.out; rw [List.length_drop]; omega] at h
                    exact Lib.hid h
                  have HWh : Hid (Calls Try.prog 27 #[.pointer (some ⟨p, 0, none⟩)] (w5.drewN q6) fun e w' => e = .returned (.bool bb) ∧ w5.drewN q6 = w') := by
                    have h := whole_any p (l.drop (a + 4)) 0 _ hR4
                    rw [show wholeB 0 (l.drop (a + 4)).length = bb by rw [← hbb]; have := HL.out; simp only [wholeB, List.length_drop, beq_self_eq_true, Bool.true_and]; rw [Bool.eq_iff_iff]; simp; omega] at h
                    exact Lib.hid h
                  have HEr : Hid (Calls Try.prog 26 #[.pointer (some ⟨p, 0, none⟩)] (w5.drewN q6) fun e w' => e = .returned (.int .i64 0) ∧ w5.drewN q6 = w') := err_any p _ 0 _ hR4
                  have hB4 : Below w.heap.size w (w5.drewN q6) := below_drewN hB3 _
                  clear hR3 hG3 hR2 hB2 hB3
                  go_wp2_with fail
                  refine HLe.out.mono ?_
                  rintro e w' ⟨rfl, rfl⟩
                  go_wp2_with fail
                  refine HEr.out.mono ?_
                  rintro e w' ⟨rfl, rfl⟩
                  go_wp2_with fail
                  refine HWh.out.mono ?_
                  rintro e w' ⟨rfl, rfl⟩
                  go_wp2
                  go_roundw
                  case rel => exact ⟨k + 1, a + 4, 0, by omega, by go_num, by go_num, rfl, by omega, hR4, hB4⟩
                  case measure => simp [intOf]; omega
                · clear hst0
                  obtain rfl : N = 8 := by omega
                  clear hs
                  go_wp2_with fail
                  refine (HSt.out _).mono ?_
                  rintro e w' ⟨rfl, rfl⟩
                  have HU := Lib.hid (fun u hu => u64_ok p (l.drop a) u hu (by omega))
                  have hnb : (num ((l.drop a).take 8) : Int) < 18446744073709551616 := by have := num_take_lt (l.drop a) 8; omega
                  have hwr : IntKind.u64.wrap (num ((l.drop a).take 8) : Int) = (num ((l.drop a).take 8) : Int) := by rw [IntKind.wrap_u64]; omega
                  have HNn := Lib.hid (fun u hr => rnumber_any 8 Aw (c - a) ((l.drop a).take 8) u (by have := HL.out; simp; omega) (by omega) hr (by omega))
                  generalize hQ : num ((l.drop a).take 8) = Q at HU hnb hwr HNn
                  clear hQ
                  go_wp2_with fail
                  refine (HU.out _ hR2).mono ?_
                  rintro e w5 ⟨rfl, hR3, hG3⟩
                  have hB3 : Below w.heap.size w w5 := hB2.grown hG3 hB2.size (by rintro j ⟨rfl⟩; exact hpw)
                  have hWay5 : Reads w5 w5.heap.size 1 Aw 8 (bs ((l.drop a).take 8)) := (hWay.below hB3).more hB3.size
                  go_wp2_with fail
                  refine (HNn.out _ hWay5).mono ?_
                  rintro e w6 ⟨rfl, q6, rfl⟩
                  have hR4 : Rd (w5.drewN q6) p (l.drop (a + 8)) 0 := by rw [← List.drop_drop]; exact hR3
                  obtain ⟨bb, hbb⟩ : ∃ bb : Bool, (((a : Int) + 8) == (n : Int)) = bb := ⟨_, rfl⟩
                  have HLe : Hid (Calls Try.prog 25 #[.pointer (some ⟨p, 0, none⟩)] (w5.drewN q6) fun e w' => e = .returned (.int .i64 ((n : Int) - ((a : Int) + 8))) ∧ w5.drewN q6 = w') := by
                    have h := left_any p (l.drop (a + 8)) 0 _ hR4
                    rw [show (((l.drop (a + 8)).length : Nat) : Int) = (n : Int) - ((a : Int) + 8) by have := HL.out; rw [List.length_drop]; omega] at h
                    exact Lib.hid h
                  have HWh : Hid (Calls Try.prog 27 #[.pointer (some ⟨p, 0, none⟩)] (w5.drewN q6) fun e w' => e = .returned (.bool bb) ∧ w5.drewN q6 = w') := by
                    have h := whole_any p (l.drop (a + 8)) 0 _ hR4
                    rw [show wholeB 0 (l.drop (a + 8)).length = bb by rw [← hbb]; have := HL.out; simp only [wholeB, List.length_drop, beq_self_eq_true, Bool.true_and]; rw [Bool.eq_iff_iff]; simp; omega] at h
                    exact Lib.hid h
                  have HEr : Hid (Calls Try.prog 26 #[.pointer (some ⟨p, 0, none⟩)] (w5.drewN q6) fun e w' => e = .returned (.int .i64 0) ∧ w5.drewN q6 = w') := err_any p _ 0 _ hR4
                  have hB4 : Below w.heap.size w (w5.drewN q6) := below_drewN hB3 _
                  clear hR3 hG3 hR2 hB2 hB3
                  go_wp2_with fail
                  refine HLe.out.mono ?_
                  rintro e w' ⟨rfl, rfl⟩
                  go_wp2_with fail
                  refine HEr.out.mono ?_
                  rintro e w' ⟨rfl, rfl⟩
                  go_wp2_with fail
                  refine HWh.out.mono ?_
                  rintro e w' ⟨rfl, rfl⟩
                  go_wp2
                  go_roundw
                  case rel => exact ⟨k + 1, a + 8, 0, by omega, by go_num, by go_num, rfl, by omega, hR4, hB4⟩
                  case measure => simp [intOf]; omega
          · have hst0 : True := trivial
            have hdd : (st == 0) = false := by simpa using hst
            have hbad : Bad st (l.drop a).length s st := .inl ⟨hst, rfl⟩
            have HRaw := Lib.hid (fun u hu => raw_bad p s (l.drop a) st st u hu hbad)
            rcases hM with hp | ⟨hp, g1, g2, g4, g8⟩ | ⟨hp, hs⟩ | ⟨hp, hs⟩ | ⟨hp, hs⟩ | ⟨hp, hs⟩
            · clear hst0
              go_wp2_with fail
              refine (HRaw.out _ hR2).mono ?_
              rintro e w5 ⟨rfl, hR3, hG3⟩
              have hB3 : Below w.heap.size w w5 := hB2.grown hG3 hB2.size (by rintro j ⟨rfl⟩; exact hpw)
              have hWay5 : Reads w5 w5.heap.size 1 Aw 0 (bs []) := Way0 w5 Aw
              go_wp2_with fail
              refine (same_same none Aw 0 0 (c - a) [] w5 Reads.none_ hWay5 (by omega)).mono ?_
              rintro e w6 ⟨rfl, q6, rfl⟩
              have hR4 : Rd (w5.drewN q6) p (l.drop a) st := hR3
              have HLe : Hid (Calls Try.prog 25 #[.pointer (some ⟨p, 0, none⟩)] (w5.drewN q6) fun e w' => e = .returned (.int .i64 ((n : Int) - (a : Int))) ∧ w5.drewN q6 = w') := by
                have h := left_any p (l.drop a) st _ hR4
                rw [show (((l.drop a).length : Nat) : Int) = (n : Int) - (a : Int) by have := HL.out; rw [List.length_drop]; omega] at h
                exact Lib.hid h
              have HWh : Hid (Calls Try.prog 27 #[.pointer (some ⟨p, 0, none⟩)] (w5.drewN q6) fun e w' => e = .returned (.bool false) ∧ w5.drewN q6 = w') := by
                have h := whole_any p (l.drop a) st _ hR4
                rw [show wholeB st (l.drop a).length = false by simp [wholeB, hst]] at h
                exact Lib.hid h
              have HEr : Hid (Calls Try.prog 26 #[.pointer (some ⟨p, 0, none⟩)] (w5.drewN q6) fun e w' => e = .returned (.int .i64 st) ∧ w5.drewN q6 = w') := err_any p _ st _ hR4
              have hB4 : Below w.heap.size w (w5.drewN q6) := below_drewN hB3 _
              clear hR3 hG3 hR2 hB2 hB3
              go_wp2_with fail
              refine HLe.out.mono ?_
              rintro e w' ⟨rfl, rfl⟩
              go_wp2_with fail
              refine HEr.out.mono ?_
              rintro e w' ⟨rfl, rfl⟩
              go_wp2_with fail
              refine HWh.out.mono ?_
              rintro e w' ⟨rfl, rfl⟩
              go_wp2
              go_roundw
              case rel => exact ⟨k + 1, a, st, by omega, by go_num, rfl, rfl, by omega, hR4, hB4⟩
              case measure => simp [intOf]; omega
            · clear hst0
              have x1 : (s != 1) = true := by simp; omega
              have y1 : (s == 1) = false := by simp; omega
              have x2 : (s != 2) = true := by simp; omega
              have y2 : (s == 2) = false := by simp; omega
              have x4 : (s != 4) = true := by simp; omega
              have y4 : (s == 4) = false := by simp; omega
              have x8 : (s != 8) = true := by simp; omega
              have y8 : (s == 8) = false := by simp; omega
              clear g1 g2 g4 g8
              go_wp2_with fail
              refine (HRaw.out _ hR2).mono ?_
              rintro e w5 ⟨rfl, hR3, hG3⟩
              have hB3 : Below w.heap.size w w5 := hB2.grown hG3 hB2.size (by rintro j ⟨rfl⟩; exact hpw)
              have hWay5 : Reads w5 w5.heap.size 1 Aw 0 (bs []) := Way0 w5 Aw
              go_wp2_with fail
              refine (same_same none Aw 0 0 (c - a) [] w5 Reads.none_ hWay5 (by omega)).mono ?_
              rintro e w6 ⟨rfl, q6, rfl⟩
              have hR4 : Rd (w5.drewN q6) p (l.drop a) st := hR3
              have HLe : Hid (Calls Try.prog 25 #[.pointer (some ⟨p, 0, none⟩)] (w5.drewN q6) fun e w' => e = .returned (.int .i64 ((n : Int) - (a : Int))) ∧ w5.drewN q6 = w') := by
                have h := left_any p (l.drop a) st _ hR4
                rw [show (((l.drop a).length : Nat) : Int) = (n : Int) - (a : Int) by have := HL.out; rw [List.length_drop]; omega] at h
                exact Lib.hid h
              have HWh : Hid (Calls Try.prog 27 #[.pointer (some ⟨p, 0, none⟩)] (w5.drewN q6) fun e w' => e = .returned (.bool false) ∧ w5.drewN q6 = w') := by
                have h := whole_any p (l.drop a) st _ hR4
                rw [show wholeB st (l.drop a).length = false by simp [wholeB, hst]] at h
                exact Lib.hid h
              have HEr : Hid (Calls Try.prog 26 #[.pointer (some ⟨p, 0, none⟩)] (w5.drewN q6) fun e w' => e = .returned (.int .i64 st) ∧ w5.drewN q6 = w') := err_any p _ st _ hR4
              have hB4 : Below w.heap.size w (w5.drewN q6) := below_drewN hB3 _
              clear hR3 hG3 hR2 hB2 hB3
              go_wp2_with fail
              refine HLe.out.mono ?_
              rintro e w' ⟨rfl, rfl⟩
              go_wp2_with fail
              refine HEr.out.mono ?_
              rintro e w' ⟨rfl, rfl⟩
              go_wp2_with fail
              refine HWh.out.mono ?_
              rintro e w' ⟨rfl, rfl⟩
              go_wp2
              go_roundw
              case rel => exact ⟨k + 1, a, st, by omega, by go_num, rfl, rfl, by omega, hR4, hB4⟩
              case measure => simp [intOf]; omega
            · clear hst0
              subst hs
              have HU := Lib.hid (fun u hu => u8_bad p (l.drop a) st st u hu hbad)
              clear hbad
              go_wp2_with fail
              refine (HU.out _ hR2).mono ?_
              rintro e w5 ⟨rfl, hR3, hG3⟩
              have hB3 : Below w.heap.size w w5 := hB2.grown hG3 hB2.size (by rintro j ⟨rfl⟩; exact hpw)
              have HN : Hid (Calls Try.prog 21 #[.slice Aw 0 (c - a)] w5 (Draws (.int .u64 0) w5)) := rnumber_any 0 Aw (c - a) [] w5 rfl (Nat.zero_le _) (Way0 w5 Aw) (by omega)
              go_wp2_with fail
              refine HN.out.mono ?_
              rintro e w6 ⟨rfl, q6, rfl⟩
              have hR4 : Rd (w5.drewN q6) p (l.drop a) st := hR3
              have HLe : Hid (Calls Try.prog 25 #[.pointer (some ⟨p, 0, none⟩)] (w5.drewN q6) fun e w' => e = .returned (.int .i64 ((n : Int) - (a : Int))) ∧ w5.drewN q6 = w') := by
                have h := left_any p (l.drop a) st _ hR4
                rw [show (((l.drop a).length : Nat) : Int) = (n : Int) - (a : Int) by have := HL.out; rw [List.length_drop]; omega] at h
                exact Lib.hid h
              have HWh : Hid (Calls Try.prog 27 #[.pointer (some ⟨p, 0, none⟩)] (w5.drewN q6) fun e w' => e = .returned (.bool false) ∧ w5.drewN q6 = w') := by
                have h := whole_any p (l.drop a) st _ hR4
                rw [show wholeB st (l.drop a).length = false by simp [wholeB, hst]] at h
                exact Lib.hid h
              have HEr : Hid (Calls Try.prog 26 #[.pointer (some ⟨p, 0, none⟩)] (w5.drewN q6) fun e w' => e = .returned (.int .i64 st) ∧ w5.drewN q6 = w') := err_any p _ st _ hR4
              have hB4 : Below w.heap.size w (w5.drewN q6) := below_drewN hB3 _
              clear hR3 hG3 hR2 hB2 hB3
              go_wp2_with fail
              refine HLe.out.mono ?_
              rintro e w' ⟨rfl, rfl⟩
              go_wp2_with fail
              refine HEr.out.mono ?_
              rintro e w' ⟨rfl, rfl⟩
              go_wp2_with fail
              refine HWh.out.mono ?_
              rintro e w' ⟨rfl, rfl⟩
              go_wp2
              go_roundw
              case rel => exact ⟨k + 1, a, st, by omega, by go_num, rfl, rfl, by omega, hR4, hB4⟩
              case measure => simp [intOf]; omega
            · clear hst0
              subst hs
              have HU := Lib.hid (fun u hu => u16_bad p (l.drop a) st st u hu hbad)
              clear hbad
              go_wp2_with fail
              refine (HU.out _ hR2).mono ?_
              rintro e w5 ⟨rfl, hR3, hG3⟩
              have hB3 : Below w.heap.size w w5 := hB2.grown hG3 hB2.size (by rintro j ⟨rfl⟩; exact hpw)
              have HN : Hid (Calls Try.prog 21 #[.slice Aw 0 (c - a)] w5 (Draws (.int .u64 0) w5)) := rnumber_any 0 Aw (c - a) [] w5 rfl (Nat.zero_le _) (Way0 w5 Aw) (by omega)
              go_wp2_with fail
              refine HN.out.mono ?_
              rintro e w6 ⟨rfl, q6, rfl⟩
              have hR4 : Rd (w5.drewN q6) p (l.drop a) st := hR3
              have HLe : Hid (Calls Try.prog 25 #[.pointer (some ⟨p, 0, none⟩)] (w5.drewN q6) fun e w' => e = .returned (.int .i64 ((n : Int) - (a : Int))) ∧ w5.drewN q6 = w') := by
                have h := left_any p (l.drop a) st _ hR4
                rw [show (((l.drop a).length : Nat) : Int) = (n : Int) - (a : Int) by have := HL.out; rw [List.length_drop]; omega] at h
                exact Lib.hid h
              have HWh : Hid (Calls Try.prog 27 #[.pointer (some ⟨p, 0, none⟩)] (w5.drewN q6) fun e w' => e = .returned (.bool false) ∧ w5.drewN q6 = w') := by
                have h := whole_any p (l.drop a) st _ hR4
                rw [show wholeB st (l.drop a).length = false by simp [wholeB, hst]] at h
                exact Lib.hid h
              have HEr : Hid (Calls Try.prog 26 #[.pointer (some ⟨p, 0, none⟩)] (w5.drewN q6) fun e w' => e = .returned (.int .i64 st) ∧ w5.drewN q6 = w') := err_any p _ st _ hR4
              have hB4 : Below w.heap.size w (w5.drewN q6) := below_drewN hB3 _
              clear hR3 hG3 hR2 hB2 hB3
              go_wp2_with fail
              refine HLe.out.mono ?_
              rintro e w' ⟨rfl, rfl⟩
              go_wp2_with fail
              refine HEr.out.mono ?_
              rintro e w' ⟨rfl, rfl⟩
              go_wp2_with fail
              refine HWh.out.mono ?_
              rintro e w' ⟨rfl, rfl⟩
              go_wp2
              go_roundw
              case rel => exact ⟨k + 1, a, st, by omega, by go_num, rfl, rfl, by omega, hR4, hB4⟩
              case measure => simp [intOf]; omega
            · clear hst0
              subst hs
              have HU := Lib.hid (fun u hu => u32_bad p (l.drop a) st st u hu hbad)
              clear hbad
              go_wp2_with fail
              refine (HU.out _ hR2).mono ?_
              rintro e w5 ⟨rfl, hR3, hG3⟩
              have hB3 : Below w.heap.size w w5 := hB2.grown hG3 hB2.size (by rintro j ⟨rfl⟩; exact hpw)
              have HN : Hid (Calls Try.prog 21 #[.slice Aw 0 (c - a)] w5 (Draws (.int .u64 0) w5)) := rnumber_any 0 Aw (c - a) [] w5 rfl (Nat.zero_le _) (Way0 w5 Aw) (by omega)
              go_wp2_with fail
              refine HN.out.mono ?_
              rintro e w6 ⟨rfl, q6, rfl⟩
              have hR4 : Rd (w5.drewN q6) p (l.drop a) st := hR3
              have HLe : Hid (Calls Try.prog 25 #[.pointer (some ⟨p, 0, none⟩)] (w5.drewN q6) fun e w' => e = .returned (.int .i64 ((n : Int) - (a : Int))) ∧ w5.drewN q6 = w') := by
                have h := left_any p (l.drop a) st _ hR4
                rw [show (((l.drop a).length : Nat) : Int) = (n : Int) - (a : Int) by have := HL.out; rw [List.length_drop]; omega] at h
                exact Lib.hid h
              have HWh : Hid (Calls Try.prog 27 #[.pointer (some ⟨p, 0, none⟩)] (w5.drewN q6) fun e w' => e = .returned (.bool false) ∧ w5.drewN q6 = w') := by
                have h := whole_any p (l.drop a) st _ hR4
                rw [show wholeB st (l.drop a).length = false by simp [wholeB, hst]] at h
                exact Lib.hid h
              have HEr : Hid (Calls Try.prog 26 #[.pointer (some ⟨p, 0, none⟩)] (w5.drewN q6) fun e w' => e = .returned (.int .i64 st) ∧ w5.drewN q6 = w') := err_any p _ st _ hR4
              have hB4 : Below w.heap.size w (w5.drewN q6) := below_drewN hB3 _
              clear hR3 hG3 hR2 hB2 hB3
              go_wp2_with fail
              refine HLe.out.mono ?_
              rintro e w' ⟨rfl, rfl⟩
              go_wp2_with fail
              refine HEr.out.mono ?_
              rintro e w' ⟨rfl, rfl⟩
              go_wp2_with fail
              refine HWh.out.mono ?_
              rintro e w' ⟨rfl, rfl⟩
              go_wp2
              go_roundw
              case rel => exact ⟨k + 1, a, st, by omega, by go_num, rfl, rfl, by omega, hR4, hB4⟩
              case measure => simp [intOf]; omega
            · clear hst0
              subst hs
              have HU := Lib.hid (fun u hu => u64_bad p (l.drop a) st st u hu hbad)
              clear hbad
              go_wp2_with fail
              refine (HU.out _ hR2).mono ?_
              rintro e w5 ⟨rfl, hR3, hG3⟩
              have hB3 : Below w.heap.size w w5 := hB2.grown hG3 hB2.size (by rintro j ⟨rfl⟩; exact hpw)
              have HN : Hid (Calls Try.prog 21 #[.slice Aw 0 (c - a)] w5 (Draws (.int .u64 0) w5)) := rnumber_any 0 Aw (c - a) [] w5 rfl (Nat.zero_le _) (Way0 w5 Aw) (by omega)
              go_wp2_with fail
              refine HN.out.mono ?_
              rintro e w6 ⟨rfl, q6, rfl⟩
              have hR4 : Rd (w5.drewN q6) p (l.drop a) st := hR3
              have HLe : Hid (Calls Try.prog 25 #[.pointer (some ⟨p, 0, none⟩)] (w5.drewN q6) fun e w' => e = .returned (.int .i64 ((n : Int) - (a : Int))) ∧ w5.drewN q6 = w') := by
                have h := left_any p (l.drop a) st _ hR4
                rw [show (((l.drop a).length : Nat) : Int) = (n : Int) - (a : Int) by have := HL.out; rw [List.length_drop]; omega] at h
                exact Lib.hid h
              have HWh : Hid (Calls Try.prog 27 #[.pointer (some ⟨p, 0, none⟩)] (w5.drewN q6) fun e w' => e = .returned (.bool false) ∧ w5.drewN q6 = w') := by
                have h := whole_any p (l.drop a) st _ hR4
                rw [show wholeB st (l.drop a).length = false by simp [wholeB, hst]] at h
                exact Lib.hid h
              have HEr : Hid (Calls Try.prog 26 #[.pointer (some ⟨p, 0, none⟩)] (w5.drewN q6) fun e w' => e = .returned (.int .i64 st) ∧ w5.drewN q6 = w') := err_any p _ st _ hR4
              have hB4 : Below w.heap.size w (w5.drewN q6) := below_drewN hB3 _
              clear hR3 hG3 hR2 hB2 hB3
              go_wp2_with fail
              refine HLe.out.mono ?_
              rintro e w' ⟨rfl, rfl⟩
              go_wp2_with fail
              refine HEr.out.mono ?_
              rintro e w' ⟨rfl, rfl⟩
              go_wp2_with fail
              refine HWh.out.mono ?_
              rintro e w' ⟨rfl, rfl⟩
              go_wp2
              go_roundw
              case rel => exact ⟨k + 1, a, st, by omega, by go_num, rfl, rfl, by omega, hR4, hB4⟩
              case measure => simp [intOf]; omega
        · obtain rfl : m = k := by omega
          go_wp2
          go_ret
          exact ⟨rfl, hB⟩

set_option maxRecDepth 100000 in
set_option maxHeartbeats 800000 in
theorem walk_big (A : Option Addr) (n c : Nat) (S : Option Addr) (m d : Nat) (w : World) (hn : 3000 < n ∨ 300 < m) :
    Calls Try.prog 4 #[.slice A n c, .slice S m d] w fun e w' => e = .returned (.bool true) ∧ Below w.heap.size w w' := by
  by_cases h1 : 3000 < n
  · have dn : decide ((3000 : Int) < (n : Int)) = true := by simp; omega
    go_enter Try.func4, Try.ntmps4
    go_wp2_with fail
    refine (wakes_any _).mono ?_
    rintro e w1 ⟨rfl, hB1⟩
    go_wp2
    go_ret
    exact ⟨rfl, hB1⟩
  · have dn : decide ((3000 : Int) < (n : Int)) = false := by simp; omega
    have dm : decide ((300 : Int) < (m : Int)) = true := by simp; omega
    clear hn h1
    go_enter Try.func4, Try.ntmps4
    go_wp2_with fail
    refine (wakes_any _).mono ?_
    rintro e w1 ⟨rfl, hB1⟩
    go_wp2
    go_ret
    exact ⟨rfl, hB1⟩

set_option maxRecDepth 100000 in
theorem lifted (os : Os) (started : os.Started) (H : Type) (enc : TypeId × Value → H) :
    ReturnsInHanded {} Try.checked os 4 .any (Rows.octetWalksSpec.pre6 enc Try.prog Try.f4 Rows.octetWalksRow.domain false) (Rows.octetWalksSpec.post enc Try.prog Try.f4 false true false false) := by
  refine returnsInHanded_of_change (C := Try.checked) own started (by kernel_rfl) Try.func4
    (ChangeSpec.witness6 (enc := enc) (C := Try.checked) false ⟨#[], #[.slice none 0 0, .slice none 0 0], []⟩ 8 (by kernel_rfl) (by kernel_rfl) (by kernel_rfl) (by kernel_rfl)) ?_
  intro W base args ds gs before hval0 hW hcnd _
  have hval : ∀ (j : Nat) t v, Try.f4.params[j]? = some t → args[j]? = some v → Value.okWide Try.prog W .any base t v := hval0
  have hW' := hW
  obtain ⟨p, q, hA0, hV, rfl, hfz, hnd⟩ := hW
  have hA : DataW.TrodAll enc Try.prog W 0 (fun _ => true) true Try.f4.params.toList args.toList ds p := hA0
  rw [Try.params4] at hA hval
  obtain ⟨v0, v1, d0, d1, p0, p1, rfl, rfl, rfl, h0, h1⟩ := trodAll_two hA
  obtain ⟨rfl, rfl⟩ := trodVars_none hV
  obtain ⟨A0, n, c, rfl⟩ := okWide_slice Try.underlying22 (hval 0 22 v0 rfl rfl)
  obtain ⟨S0, m, d, rfl⟩ := okWide_slice Try.underlying35 (hval 1 35 v1 rfl rfl)
  clear hA0 hval0
  simp only [List.append_nil] at hW'
  have hlt0 : ∀ x ∈ p0, x.block < W.heap.size := fun x hx => hW'.lt x (by simp [hx])
  have hlt1 : ∀ x ∈ p1, x.block < W.heap.size := fun x hx => hW'.lt x (by simp [hx])
  obtain ⟨l, hl, hr, hc⟩ := open_bytes h0
  obtain ⟨zs, hzl, hz, hzw, _, _⟩ := open_nums Try.underlying35 Try.underlying3 int_cells h1
  have hwk : Calls Try.prog 4 #[.slice A0 n c, .slice S0 m d] W fun e w' => e = .returned (.bool true) ∧ Below W.heap.size W w' := by
    by_cases hn : n ≤ 3000 ∧ m ≤ 300
    · exact walk A0 n c l S0 m d zs W hl hr hn.1 hc hzl hz hzw hn.2
    · exact walk_big A0 n c S0 m d W (by omega)
  refine hwk.mono fun e W' ⟨he, hb⟩ => ?_
  subst he
  exact ⟨_, rfl, post_of_below (pa := p0 ++ p1) (pv := []) hW' (fun _ _ _ => trodAll_mk1 (shut_bool Try.underlying4 _)) (fun sp hsp => trodAll_mk2 (arg_stays (by kernel_rfl) (of_decide_eq_true (by kernel_rfl)) h0 hb hlt0 (fun x hx => hsp x (by simp [hx]))) (arg_stays (by kernel_rfl) (of_decide_eq_true (by kernel_rfl)) h1 hb hlt1 (fun x hx => hsp x (by simp [hx])))) (fun _ _ => rfl) (by simp)
    hb (ok_one (by kernel_rfl) rfl (okWide_bool_mk Try.underlying4 _))⟩

theorem proved : Rows.OctetWalksSaid :=
  OpenClaim.holds_of_wide 4 Try.f4 rfl rfl rfl rfl rfl rfl rfl ⟨rfl, rfl, rfl, rfl, rfl⟩ rfl rfl rfl rfl rfl (by kernel_rfl) Try.func4 (by kernel_rfl)
    (of_decide_eq_true (by kernel_rfl)) (by unfold Func.isWrapper; first | (rw [if_pos (by decide +kernel)]; kernel_rfl) | (rw [if_neg (by decide +kernel)]; exact ⟨rfl, rfl⟩))
    (fun os started H enc _ => lifted os started H enc)

end Go.Proofs.Ytifclmmfnfppiaa.octetWalks
