/-
  The contract of the landed topo: Decode. No statement is proved here.
-/
import Derived.Test.YtfalkiinlkfanaaLt
import Derived.Test.YtfalkiinlkfanaaLr
namespace Go.Proofs.Ytfalkiinlkfanaa
open Go.RowKit Go.Shelf

set_option maxRecDepth 100000 in
set_option maxHeartbeats 1000000 in
theorem width_any (z : Int) (w : World) (h0 : 0 ≤ z) (h1 : z < 256) : Calls Try.prog 57 #[.int .u8 z] w fun e w' => e = .returned (.int .i64 (1 + 2 * z)) ∧ w = w' := by
  have e1 : IntKind.i64.wrap z = z := by rw [IntKind.wrap_i64]; omega
  have e2 : IntKind.i64.wrap (2 * z) = 2 * z := by rw [IntKind.wrap_i64]; omega
  have e3 : IntKind.i64.wrap (1 + 2 * z) = 1 + 2 * z := by rw [IntKind.wrap_i64]; omega
  go_enter Try.func57, Try.ntmps57
  go_wp2
  go_ret
  exact ⟨rfl, rfl⟩

theorem first_seats (bs : List Int) (z : Nat) : ((firstF z z).map fun k => (bs.getD (1 + 2 * k.1) 0, bs.getD (2 + 2 * k.1) 0)) = seatsOf bs z := by
  unfold firstF seatsOf
  rw [List.take_of_length_le (by simp)]
  apply List.ext_getElem
  · simp
  · intro i h1 h2
    simp
theorem byte_at {w : World} {ad : Addr} {bs : List Int} (hB : ByteS ad bs w) {i : Nat} (h : i < bs.length) : w.cell? (ad.add i) = some (.int .u8 (bs.getD i 0)) := by
  have := hB i bs[i] (List.getElem?_eq_getElem h)
  rw [this, List.getD_eq_getElem?_getD, List.getElem?_eq_getElem h]
  rfl

set_option maxRecDepth 100000 in
set_option maxHeartbeats 8000000 in
theorem tdecode_ok : TDecodeOk := by
  intro A n c bs w hl hby hR hnc hn
  have K := Blk.new w 27 #[.slice none 0 0]
  have B := (Below.refl _ w).alloc (Nat.le_refl _) (.cells #[.slice none 0 0] 27)
  by_cases h1 : n < 1
  · have HV : Hid (decodeV bs = ([], 7)) := Lib.hid (by unfold decodeV; rw [if_pos (.inl (by omega))])
    have e1 : (n : Int) < 1 := by omega
    have HK := Lib.hid (And.intro K B)
    clear hl hby hR hn hnc h1 K B
    go_enter Try.func32, Try.ntmps32
    go_wp2_with fail
    rw [HV.out]
    exact bodyPost_ret (v := .tuple #[.agg #[.slice none 0 0], .int .i64 7]) (results_topo Try.results32 _ _ _ _ _ _ rfl HK.out.1 Try.underlying27 rfl (by kernel_rfl)) rfl (Gets.none_ HK.out.2)
  · obtain ⟨ad, rfl, hb, hBy⟩ := bytes_of hR (by omega)
    obtain ⟨b0, hb0⟩ := elem_at (l := bs) (k := 0) (by omega)
    obtain ⟨z0, z1⟩ := hby 0 b0 hb0
    obtain ⟨z, rfl⟩ := Int.eq_ofNat_of_zero_le z0
    have hg0 : bs.getD 0 0 = (z : Int) := by rw [List.getD_eq_getElem?_getD, hb0]; rfl
    have FR0 := hBy.alloc (Nat.le_refl _) hb (.cells #[.slice none 0 0] 27)
    have c0 : (w.alloc (.cells #[.slice none 0 0] 27)).cell? ad = some (.int .u8 (z : Int)) := by
      have := FR0 0 _ hb0
      rwa [show ad.add 0 = ad from rfl] at this
    have HW := Lib.hid (fun u => width_any (z : Int) u z0 z1)
    have e1 : ¬ (n : Int) < 1 := by omega
    have n0 : (0 : Int) < (n : Int) := by omega
    by_cases h2 : (n : Int) < 1 + 2 * (z : Int)
    · have HV : Hid (decodeV bs = ([], 7)) := Lib.hid (by unfold decodeV; rw [if_pos (.inr (by rw [hg0, hl]; exact h2))])
      have e2 : decide ((n : Int) < 1 + 2 * (z : Int)) = true := decide_eq_true h2
      generalize 1 + 2 * (z : Int) = wz at *
      have HK := Lib.hid (And.intro K B)
      clear hl hby hR h1 K B FR0 hBy hb0 hg0 z0 z1 h2
      go_enter Try.func32, Try.ntmps32
      go_wp2_with fail
      refine (HW.out _).mono ?_
      rintro e w1 ⟨rfl, rfl⟩
      go_wp2_with fail
      rw [HV.out]
      exact bodyPost_ret (v := .tuple #[.agg #[.slice none 0 0], .int .i64 7]) (results_topo Try.results32 _ _ _ _ _ _ rfl HK.out.1 Try.underlying27 rfl (by kernel_rfl)) rfl (Gets.none_ HK.out.2)
    · have hw2 : decide ((n : Int) < 1 + 2 * (z : Int)) = false := decide_eq_false h2
      by_cases h3 : 1 + 2 * (z : Int) < (n : Int)
      · have HV : Hid (decodeV bs = ([], 160)) := Lib.hid (by
          unfold decodeV
          rw [if_neg (by rw [hg0, hl]; omega), if_neg (by rw [hg0, hl]; omega)])
        have e2 : decide (1 + 2 * (z : Int) < (n : Int)) = true := decide_eq_true h3
        generalize 1 + 2 * (z : Int) = wz at *
        have HK := Lib.hid (And.intro K B)
        clear hl hby hR h1 K B FR0 hBy hb0 hg0 z0 z1 h2
        go_enter Try.func32, Try.ntmps32
        go_wp2_with fail
        refine (HW.out _).mono ?_
        rintro e w1 ⟨rfl, rfl⟩
        go_wp2_with fail
        refine (HW.out _).mono ?_
        rintro e w1 ⟨rfl, rfl⟩
        go_wp2_with fail
        rw [HV.out]
        exact bodyPost_ret (v := .tuple #[.agg #[.slice none 0 0], .int .i64 160]) (results_topo Try.results32 _ _ _ _ _ _ rfl HK.out.1 Try.underlying27 rfl (by kernel_rfl)) rfl (Gets.none_ HK.out.2)
      · have hw3 : decide (1 + 2 * (z : Int) < (n : Int)) = false := decide_eq_false h3
        have hnz : n = 1 + 2 * z := by omega
        have hlen : (seatsOf bs z).length = z := length_seatsOf bs z
        have hv : decodeV bs = if rightT (seatsOf bs z) = true then (seatsOf bs z, 0) else ([], 160) := by
          unfold decodeV
          rw [if_neg (by rw [hg0, hl]; omega), hg0, hl, Int.toNat_natCast]
          by_cases hr : rightT (seatsOf bs z) = true
          · rw [if_pos ⟨hr, by omega⟩, if_pos hr]
          · rw [if_neg (fun h => hr h.1), if_neg hr]
        have hBw : ByteS ad bs (w.alloc (.cells #[.slice none 0 0] 27)) := FR0
        have hrs := fun (Aw : Option Addr) (hAw : 0 < n - 1 → Aw = some (ad.add 1)) => readseats_any Aw (ad.add 1) (n - 1) (c - 1) z (fun k => (bs.getD (1 + 2 * k) 0, bs.getD (2 + 2 * k) 0)) (w.alloc (.cells #[.slice none 0 0] 27)) (by omega) (by omega) (by omega)
          (fun h => ⟨hAw h, by rw [block_of_add]; simp; omega⟩) (fun k hk => by
            have q1 := byte_at hBw (i := 1 + 2 * k) (by omega)
            have q2 := byte_at hBw (i := 2 + 2 * k) (by omega)
            have q3 := hby (1 + 2 * k) (bs.getD (1 + 2 * k) 0) (by rw [List.getD_eq_getElem?_getD, List.getElem?_eq_getElem (by omega)]; rfl)
            have q4 := hby (2 + 2 * k) (bs.getD (2 + 2 * k) 0) (by rw [List.getD_eq_getElem?_getD, List.getElem?_eq_getElem (by omega)]; rfl)
            rw [add_of_add]
            refine ⟨q1, ?_, q3.1, q3.2, q4.1, q4.2⟩
            have := add_past ad (1 + 2 * k) 0
            rw [show 1 + 2 * k + (0 + 1) = 2 + 2 * k by omega] at this
            show World.cell? _ ⟨(ad.add (1 + 2 * k)).block, (ad.add (1 + 2 * k)).off + (0 + 1), none⟩ = _
            rw [← this]
            exact q2)
        rw [first_seats] at hrs
        obtain ⟨Aw, hAw⟩ : ∃ Aw, (if c = 1 then some ad else some ⟨ad.block, ad.off + 1, none⟩) = Aw := ⟨_, rfl⟩
        have HRS := Lib.hid (hrs Aw (fun h => by rw [← hAw, if_neg (by omega)]; rfl))
        have HL := Lib.hid hlen
        have HZ : Hid (z ≤ 255) := Lib.hid (by omega)
        have HK := Lib.hid (And.intro K B)
        have n1 : (1 : Int) ≤ (n : Int) := by omega
        have hc1 : 1 ≤ c := by omega
        rw [hv]
        generalize seatsOf bs z = L at *
        clear hrs hl hby hR K B FR0 hBy hBw hb0 hg0 z0 z1 h1 h2 h3 hnz hv hlen
        generalize 1 + 2 * (z : Int) = wz at *
        cases hr : rightT L with
        | true =>
          rw [if_pos rfl]
          go_enter Try.func32, Try.ntmps32
          go_wp2_with fail
          refine (HW.out _).mono ?_
          rintro e w1 ⟨rfl, rfl⟩
          go_wp2_with fail
          refine (HW.out _).mono ?_
          rintro e w1 ⟨rfl, rfl⟩
          go_wp2_with fail
          refine HRS.out.mono ?_
          rintro e w2 ⟨v, rfl, ho, h2⟩
          rw [HL.out] at ho
          obtain ⟨A2, c2, rfl, hc2, _⟩ := own_reads ho
          have K2 := HK.out.1.below h2 HK.out.1.lt
          have B2 := HK.out.2.trans (h2.mono HK.out.2.size)
          have hlt2 := K2.lt
          have ho3 := ho.alloc (.cells #[.slice A2 z c2] 27)
          have K3 := K2.alloc (.cells #[.slice A2 z c2] 27)
          have B3 := B2.alloc B2.size (.cells #[.slice A2 z c2] 27)
          have K4 := Blk.new w2 27 #[.slice A2 z c2]
          have A3 : At (w2.alloc (.cells #[.slice A2 z c2] 27)) A2 z c2 L := ⟨Reads.of_own ho3, hc2, by have := HZ.out; omega⟩
          have hck := tcheck_ok A2 z c2 L _ A3
          rw [hr] at hck
          have HCk := Lib.hid hck
          clear hck ho h2 K2 B2 HRS HW hlt2
          go_wp2_with fail
          refine HCk.out.mono ?_
          rintro e w5 ⟨rfl, h5⟩
          have K5 := K3.below h5 K3.lt
          have B5 := B3.trans (h5.mono B3.size)
          have K6 := K4.below h5 K4.lt
          have d0 := K5.cell 0
          have f0 := K5.frozen 0
          have d4 := K6.cell 0
          have HKF := Lib.hid (put1 (x := .slice A2 z c2) K5 B5 (Nat.le_refl _))
          have HFA := Lib.hid (own_far (own_below ho3 h5) (show w.heap.size < (w.alloc (.cells #[.slice none 0 0] 27)).heap.size by simp) 0 (.slice A2 z c2))
          have HC2 := Lib.hid hc2
          clear ho3 hc2 K3 B3 K4 A3 HCk h5 K5 B5 K6
          go_wp2_with fail
          exact bodyPost_ret (v := .tuple #[.agg #[.slice A2 z c2], .int .i64 0]) (results_topo Try.results32 _ _ _ _ _ _ rfl HKF.out.1 Try.underlying27 rfl (by kernel_rfl)) rfl ⟨A2, z, c2, rfl, HL.out.symm, ⟨HFA.out.1, HC2.out, by have := HZ.out; omega⟩, HKF.out.2⟩
        | false =>
          rw [if_neg Bool.false_ne_true]
          go_enter Try.func32, Try.ntmps32
          go_wp2_with fail
          refine (HW.out _).mono ?_
          rintro e w1 ⟨rfl, rfl⟩
          go_wp2_with fail
          refine (HW.out _).mono ?_
          rintro e w1 ⟨rfl, rfl⟩
          go_wp2_with fail
          refine HRS.out.mono ?_
          rintro e w2 ⟨v, rfl, ho, h2⟩
          rw [HL.out] at ho
          obtain ⟨A2, c2, rfl, hc2, _⟩ := own_reads ho
          have K2 := HK.out.1.below h2 HK.out.1.lt
          have B2 := HK.out.2.trans (h2.mono HK.out.2.size)
          have hlt2 := K2.lt
          have ho3 := ho.alloc (.cells #[.slice A2 z c2] 27)
          have K3 := K2.alloc (.cells #[.slice A2 z c2] 27)
          have B3 := B2.alloc B2.size (.cells #[.slice A2 z c2] 27)
          have K4 := Blk.new w2 27 #[.slice A2 z c2]
          have A3 : At (w2.alloc (.cells #[.slice A2 z c2] 27)) A2 z c2 L := ⟨Reads.of_own ho3, hc2, by have := HZ.out; omega⟩
          have hck := tcheck_ok A2 z c2 L _ A3
          rw [hr] at hck
          have HCk := Lib.hid hck
          clear hck ho h2 K2 B2 HRS HW hlt2
          go_wp2_with fail
          refine HCk.out.mono ?_
          rintro e w5 ⟨rfl, h5⟩
          have K5 := K3.below h5 K3.lt
          have B5 := B3.trans (h5.mono B3.size)
          have K6 := K4.below h5 K4.lt
          have d0 := K5.cell 0
          have f0 := K5.frozen 0
          have d4 := K6.cell 0
          have HKF := Lib.hid (put1 (x := .slice none 0 0) K5 B5 (Nat.le_refl _))
          clear ho3 hc2 K3 B3 K4 A3 HCk h5 K5 B5 K6
          go_wp2_with fail
          exact bodyPost_ret (v := .tuple #[.agg #[.slice none 0 0], .int .i64 160]) (results_topo Try.results32 _ _ _ _ _ _ rfl HKF.out.1 Try.underlying27 rfl (by kernel_rfl)) rfl (Gets.none_ HKF.out.2)

end Go.Proofs.Ytfalkiinlkfanaa
