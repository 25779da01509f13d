/-
  PlaceFull's walk. No statement is proved here.
-/
import Derived.Test.YtldleijocjohgaaDoorGn
namespace Go.Proofs.YtldleijocjohgaaDoor
open Go.RowKit

theorem wish_info : (Tryd.prog.info? 43).map (fun i => (i.zero, i.size, i.bytes)) = some (some (.agg #[.int .i64 0, .int .i64 0, .int .u32 0, .int .u32 0]), 4, 24) := by kernel_rfl
theorem prefix_at {ps : List (Int × Int)} {l : List Wi} (h : ps.map (·.1) <+: l.map (·.v)) {k : Nat} {p : Int × Int} {x : Wi} (hp : ps[k]? = some p) (hx : l[k]? = some x) : p.1 = x.v := by
  obtain ⟨r, hr⟩ := h
  have h1 : (l.map (·.v))[k]? = some p.1 := by
    rw [← hr, List.getElem?_append_left (by rw [List.length_map]; exact (List.getElem?_eq_some_iff.1 hp).1), List.getElem?_map, hp]; rfl
  rw [List.getElem?_map, hx] at h1
  exact (Option.some.inj h1).symm
theorem add_base (g m : Nat) : (⟨g, 0, none⟩ : Addr).add m = ⟨g, m, none⟩ := by
  unfold Addr.add
  split
  · rename_i h; rw [h]
  · simp
theorem own_frozen {w : World} {base n size cap g : Nat} {e : TypeId} {xs : List Value} (h : w.ownsRow base e size (.slice (some ⟨g, 0, none⟩) n cap) n xs) (j : Nat) : w.frozen? ⟨g, j, none⟩ = false := by
  rcases h.2 with ⟨h', _⟩ | ⟨g', cap', cur, h', _, hg, _⟩
  · simp at h'
  · simp only [Value.slice.injEq, Option.some.injEq, Addr.mk.injEq, and_true, true_and] at h'
    obtain ⟨rfl, rfl⟩ := h'
    simp [World.frozen?, hg]

set_option maxRecDepth 100000 in
set_option maxHeartbeats 4000000 in
theorem full_walk (A : Option Addr) (n c : Nat) (l : List Wi) (s : Int) (w : World) (hD : Db w) (hR : Reads w w.heap.size 4 A n (wivs l)) (hU : ∀ (k : Nat) (x : Wi), l[k]? = some x → UW x) (hs : U32 s) :
    Calls Tryd.prog 7 #[.slice A n c, .int .u32 s] w (Said (.bool true) w) := by
  have HK := Lib.hid (fun u hu => wakes_any u hu)
  have HD := Lib.hid hD
  by_cases hn : 60 < n
  · have q : decide ((60 : Int) < (n : Int)) = true := decide_eq_true (by omega)
    clear hR hU hs hD hn
    go_enter Tryd.func7, Tryd.ntmps7
    go_wp2_with fail
    refine (HK.out _ HD.out).mono ?_
    rintro e w1 ⟨rfl, h1⟩
    go_wp2
    go_ret
    exact ⟨rfl, h1⟩
  · have q : decide ((60 : Int) < (n : Int)) = false := decide_eq_false (by omega)
    obtain ⟨i0, hi0, hz0, hz1, hz2⟩ := info_parts wish_info
    have HL := Lib.hid (wishes_len hR)
    have HR := Lib.hid hR
    have HU := Lib.hid hU
    have HS := Lib.hid hs
    have hn60 : n ≤ 60 := by omega
    clear hR hU hs hD hn
    go_enter Tryd.func7, Tryd.ntmps7
    go_wp2_with fail
    refine (HK.out _ HD.out).mono ?_
    rintro e w1 ⟨rfl, h1⟩
    have HD1 := Lib.hid (HD.out.below h1 HD.out.lt)
    have HR1 := Lib.hid ((HR.out.below h1).more h1.size)
    have HC := Lib.hid (HR1.out.alloc (Nat.le_refl _) (.cells #[] 43))
    have HB1 := Lib.hid h1
    have HB2 := Lib.hid ((Below.refl w1.heap.size w1).alloc (Nat.le_refl _) (.cells #[] 43))
    clear h1
    go_wp2_with (
      at_builtin
      refine wpList_append_any _ rfl (.tmp 16) (.tmp 17) 22 rfl w1.heap.size 43 i0 (.agg #[.int .i64 0, .int .i64 0, .int .u32 0, .int .u32 0]) 4 24 Tryd.underlying22 hi0 hz0 hz1 hz2 rfl (by decide) (.slice (some ⟨w1.heap.size, 0, none⟩) 0 0) 0 [] rfl (by simpa using World.ownsRow_made w1 #[] 0 (Nat.le_refl _) (by simp [maxLen]) (by simp)) _ A n c (wivs l) rfl HC.out (wivs_ones _) (by simp only [maxLen]; omega) (by omega) (by simp) ?_
      intro v9 w9 own9 grow9 _
      rw [List.nil_append, Nat.zero_add] at own9
      obtain ⟨A9, c9, rfl, _, _⟩ := own_reads own9
      have HO := Lib.hid (And.intro own9 (HB2.out.grown grow9 HB2.out.size (fun k hk => by simp [Value.ownBlock] at hk; omega)))
      clear own9 grow9)
    have hO1 := HO.out.1
    have hB9 := HO.out.2
    go_loopw [21, 5] (fun i _ wr => ∃ k : Nat, k ≤ n ∧ i = .int .i64 (k : Int) ∧ wr.ownsRow w1.heap.size 43 4 (.slice A9 n c9) n (wivs (setK l k)) ∧ Below w1.heap.size w1 wr) (fun i _ _ => n - (intOf i).toNat)
    case atStart => exact ⟨0, by omega, rfl, hO1, hB9⟩
    case round =>
      clear hO1 hB9
      obtain ⟨k, hk, rfl, hO, hB⟩ := hrel
      by_cases hlt : k < n
      · obtain ⟨x, hx⟩ := elem_at (l := l) (k := k) (by rw [HL.out]; exact hlt)
        obtain ⟨g, cap, hv, hgc, hgl⟩ := hO.form (by omega)
        injection hv with e1 e2 e3
        subst e1 e3
        have hcs := hO.cells (g := g) rfl (k * 4 + 2) (.int .u32 x.h) (by
          have := flat_at wiv length_wiv (setK_at hx) 2 (by omega)
          unfold wivs
          rw [this]; rfl)
        rw [add_base] at hcs
        have hf := own_frozen hO (k * 4 + 2)
        have i1 : (0 : Int) ≤ (k : Int) := by omega
        have i2 : (k : Int) < (n : Int) := by omega
        have HS1 := Lib.hid (hO.stored (k * 4 + 2) (.int .u32 255)).1
        have HST := Lib.hid (setK_step hx)
        have HWS := Lib.hid (wivs_set (setK l k) k x (setK_at hx))
        have HGB := Lib.hid (hO.lt g rfl).1
        have HBB := Lib.hid hB
        clear hO hB
        go_wp2_with fail
        go_roundw
        case rel =>
          refine ⟨k + 1, by omega, by go_num, ?_, HBB.out.setCell (p := ⟨g, k * 4 + 2, none⟩) HGB.out _⟩
          rw [HST.out, ← HWS.out]
          exact HS1.out
        case measure => simp [intOf] <;> omega
      · obtain rfl : n = k := by omega
        rw [show setK l n = l.map hardW by rw [← HL.out]; exact setK_all l] at hO
        obtain ⟨A8, c8, e8, _, hRr⟩ := own_reads hO
        injection e8 with e1 e2 e3
        subst e1 e3
        have HD2 := Lib.hid (HD1.out.below hB HD1.out.lt)
        have HP := Lib.hid (place_any A9 n c9 (l.map hardW) s wr HS.out hRr (hard_um HU.out) (by omega) HD2.out)
        have HLh : Hid ((l.map hardW).length = n) := Lib.hid (by rw [List.length_map]; exact HL.out)
        have HBB := Lib.hid (HB1.out.trans (hB.mono HB1.out.size))
        have HRr := Lib.hid hRr
        clear hO hB hRr e2
        unfold placesL placesS at HP
        by_cases hE : whyE (l.map hardW) s = 0
        · obtain ⟨S, hS⟩ := Int.eq_ofNat_of_zero_le HS.out.1
          have hS256 : S < 256 := by have := why_small hE; omega
          subst hS
          have hfull := full_facts (l.map hardW) S (hard_right HU.out (why_right hE)) hS256
          rw [if_pos hE, if_pos hE, hE, Int.toNat_natCast] at HP
          have HCt := Lib.hid (fun u => count_any (S : Int) u (by omega) (by omega))
          rw [show ((mem (S : Int)).length : Int) = (popS S : Int) from rfl] at HCt
          generalize lefts bestW (l.map hardW) S = L at *
          generalize hps : putsOf (tus bestW (l.map hardW) S) = ps at *
          obtain ⟨f1, f2, f3⟩ := hfull
          rw [HLh.out] at f1 f2
          have HF2 := Lib.hid f2
          have HF3 := Lib.hid f3
          generalize hpl : ps.length = m at *
          have hmi : min (n : Int) (popS S : Int) = (m : Int) := by omega
          have hm60 : m ≤ 60 := by omega
          clear hE hps f1 f2 f3
          obtain ⟨z, hz⟩ : ∃ z, popS S = z := ⟨_, rfl⟩
          rw [hz] at HCt hmi
          clear hz
          go_wp2_with fail
          refine HP.out.mono ?_
          rintro e w2 ⟨v, rfl, hO, h2⟩
          obtain ⟨A2, c2, rfl, _, hPr⟩ := own_reads hO
          have HPr := Lib.hid hPr
          have HRr2 := Lib.hid ((HRr.out.below h2).more h2.size)
          have HB3 := Lib.hid (HBB.out.trans (h2.mono HBB.out.size))
          clear hO h2 hPr
          by_cases hmn : m < n
          · have hL0 : L = 0 := HF2.out hmn
            subst hL0
            have qmn : decide (m < n) = true := decide_eq_true hmn
            clear HF2
            go_wp2_with fail
            refine (HCt.out _).mono ?_
            rintro e w3 ⟨rfl, nq, rfl⟩
            go_wp2_with fail
            go_loopw [63, 9] (fun i _ wr => ∃ k : Nat, k ≤ m ∧ i = .int .i64 (k : Int) ∧ Below w2.heap.size w2 wr) (fun i _ _ => m - (intOf i).toNat)
            case atStart => exact ⟨0, by omega, rfl, below_drewN (Below.refl _ _) _⟩
            case round =>
              obtain ⟨k, hk, rfl, hB⟩ := hrel
              by_cases hlt : k < m
              · obtain ⟨⟨x, y⟩, hx⟩ := elem_at (l := ps) (k := k) (by rw [hpl]; exact hlt)
                obtain ⟨⟨xv, xa, xh, xs⟩, hw⟩ := elem_at (l := l.map hardW) (k := k) (by rw [HLh.out]; omega)
                have hxv : x = xv := prefix_at HF3.out hx hw
                subst hxv
                obtain ⟨ad, rfl, hb1, d0, d1⟩ := seat_at (HPr.out.below hB) hx
                have B1 := Lib.hid (hB.alloc hB.size (.cells #[.int .i64 x, .int .i64 y] 52))
                have hR3 := (HRr2.out.below hB).alloc hB.size (.cells #[.int .i64 x, .int .i64 y] 52)
                obtain ⟨ad', rfl, hb2, g0, g1, g2, g3⟩ := wish_at hR3 hw
                have K10 := Blk.new wr 52 #[.int .i64 x, .int .i64 y]
                have z0 := K10.cell 0
                have i1 : (0 : Int) ≤ (k : Int) := by omega
                have i2 : (k : Int) < (m : Int) := by omega
                have i3 : (k : Int) < (n : Int) := by omega
                clear hx hw hb1 hb2 hB hR3 K10 g1 g2 g3
                go_wp2_with fail
                go_quiet (fail)
                go_wp2
                go_roundw
                case rel => exact ⟨k + 1, by omega, by go_num, below_drewN B1.out _⟩
                case measure => simp [intOf] <;> omega
              · obtain rfl : k = m := by omega
                go_wp2
                go_ret
                exact ⟨rfl, HB3.out.trans (hB.mono HB3.out.size)⟩
          · have qmn : decide (m < n) = false := decide_eq_false hmn
            clear HF2
            go_wp2_with fail
            refine (HCt.out _).mono ?_
            rintro e w3 ⟨rfl, nq, rfl⟩
            go_wp2_with fail
            go_loopw [63, 9] (fun i _ wr => ∃ k : Nat, k ≤ m ∧ i = .int .i64 (k : Int) ∧ Below w2.heap.size w2 wr) (fun i _ _ => m - (intOf i).toNat)
            case atStart => exact ⟨0, by omega, rfl, below_drewN (Below.refl _ _) _⟩
            case round =>
              obtain ⟨k, hk, rfl, hB⟩ := hrel
              by_cases hlt : k < m
              · obtain ⟨⟨x, y⟩, hx⟩ := elem_at (l := ps) (k := k) (by rw [hpl]; exact hlt)
                obtain ⟨⟨xv, xa, xh, xs⟩, hw⟩ := elem_at (l := l.map hardW) (k := k) (by rw [HLh.out]; omega)
                have hxv : x = xv := prefix_at HF3.out hx hw
                subst hxv
                obtain ⟨ad, rfl, hb1, d0, d1⟩ := seat_at (HPr.out.below hB) hx
                have B1 := Lib.hid (hB.alloc hB.size (.cells #[.int .i64 x, .int .i64 y] 52))
                have hR3 := (HRr2.out.below hB).alloc hB.size (.cells #[.int .i64 x, .int .i64 y] 52)
                obtain ⟨ad', rfl, hb2, g0, g1, g2, g3⟩ := wish_at hR3 hw
                have K10 := Blk.new wr 52 #[.int .i64 x, .int .i64 y]
                have z0 := K10.cell 0
                have i1 : (0 : Int) ≤ (k : Int) := by omega
                have i2 : (k : Int) < (m : Int) := by omega
                have i3 : (k : Int) < (n : Int) := by omega
                clear hx hw hb1 hb2 hB hR3 K10 g1 g2 g3
                go_wp2_with fail
                go_quiet (fail)
                go_wp2
                go_roundw
                case rel => exact ⟨k + 1, by omega, by go_num, below_drewN B1.out _⟩
                case measure => simp [intOf] <;> omega
              · obtain rfl : k = m := by omega
                go_wp2
                go_ret
                exact ⟨rfl, HB3.out.trans (hB.mono HB3.out.size)⟩
        · have q2 : (whyE (l.map hardW) s != 0) = true := by simpa using hE
          rw [if_neg hE, if_neg hE] at HP
          generalize whyE (l.map hardW) s = E at *
          clear hE
          go_wp2_with fail
          refine HP.out.mono ?_
          rintro e w2 ⟨v, rfl, hO, h2⟩
          obtain ⟨A2, c2, rfl, _, _⟩ := own_reads hO
          have HB3 := Lib.hid (HBB.out.trans (h2.mono HBB.out.size))
          clear hO h2
          go_wp2
          go_ret
          exact ⟨rfl, HB3.out⟩

end Go.Proofs.YtldleijocjohgaaDoor
