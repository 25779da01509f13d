/-
  The document's gangs: members, Right. No statement is proved here.
-/
import Derived.Test.YtglphgfaknofcaaKm
namespace Go.Proofs.Ytglphgfaknofcaa
open Go.RowKit Go.Maps

set_option maxRecDepth 100000 in
set_option maxHeartbeats 4000000 in
theorem dmembers_any (A : Option Addr) (n c : Nat) (is : List Int) (w : World) (hI : IR w A n is) :
    Calls Try.prog 37 #[.slice A n c] w fun e w' => e = .returned (.bool (membersB is)) ∧ w = w' := by
  have HR := Lib.hid hI
  have HL := Lib.hid hI.len
  have n9 := hI.small
  have HV : Hid (membersB is = (decide (2 ≤ n) && decide (n ≤ 8) && riseI 0 is)) := Lib.hid (by unfold membersB; rw [hI.len])
  clear hI
  go_enter Try.func37, Try.ntmps37
  go_wp2_with fail
  go_loop [7] (fun iv => ∃ k : Nat, k ≤ n ∧ iv = .int .i64 (k : Int) ∧ Hid (riseI 0 is = riseI (lastI is k) (is.drop k)) ∧ Hid (0 ≤ lastI is k)) (fun iv => n - (intOf iv).toNat)
  case atStart => exact ⟨0, by omega, rfl, Lib.hid rfl, Lib.hid (Int.le_refl _)⟩
  case round =>
    obtain ⟨k, hk, rfl, HP, HZ⟩ := hrel
    by_cases hlt : k < n
    · obtain ⟨x, hx⟩ := elem_at (l := is) (k := k) (by rw [HL.out]; exact hlt)
      obtain ⟨ad, rfl, _, d0⟩ := HR.out.at_ hx
      have HN := Lib.hid (HP.out.trans (riseI_at hx))
      have HLx := Lib.hid (lastI_at hx)
      have i1 : (0 : Int) ≤ (k : Int) := by omega
      have i2 : (k : Int) < (n : Int) := by omega
      have l1 : decide ((k : Int) < (n : Int)) = true := decide_eq_true i2
      by_cases g0 : x < 1
      · have q0 : decide (x < 1) = true := decide_eq_true g0
        have HF : Hid (membersB is = false) := Lib.hid (by rw [HV.out, HN.out, decide_eq_false (show ¬ lastI is k < x by have := HZ.out; omega)]; simp)
        clear g0 hx HP
        go_wp2_with fail
        go_ret
        exact ⟨retB HF.out.symm, rfl⟩
      have q0 : decide (x < 1) = false := decide_eq_false g0
      by_cases g1 : 16 < x
      · have q1 : decide (16 < x) = true := decide_eq_true g1
        have HF : Hid (membersB is = false) := Lib.hid (by rw [HV.out, HN.out, decide_eq_false (show ¬ x ≤ 16 by omega)]; simp)
        clear g0 g1 hx HP
        go_wp2_with fail
        go_ret
        exact ⟨retB HF.out.symm, rfl⟩
      have q1 : decide (16 < x) = false := decide_eq_false g1
      have HX : Hid (0 < x ∧ x ≤ 16) := Lib.hid (by omega)
      cases k with
      | zero =>
        have HP2 : Hid (riseI 0 is = riseI (lastI is 1) (is.drop 1)) := Lib.hid (by rw [HN.out, HLx.out, show lastI is 0 = 0 from rfl, decide_eq_true HX.out.1, decide_eq_true HX.out.2]; rfl)
        have HZ2 : Hid (0 ≤ lastI is 1) := Lib.hid (by rw [HLx.out]; have := HX.out; omega)
        have hn1 : 0 + 1 ≤ n := hlt
        have d0' : w.cell? ad = some (.int .i64 x) := by have q := d0; rwa [show ad.add 0 = ad by simp [Addr.add]] at q
        clear g0 g1 hx HP HZ HN hk hlt d0
        go_wp2_with fail
        go_roundw
        case rel => exact ⟨0 + 1, hn1, by go_num, HP2, HZ2⟩
        case measure => simp [intOf] <;> omega
      | succ j =>
        obtain ⟨y, hy⟩ := elem_at (l := is) (k := j) (by rw [HL.out]; omega)
        obtain ⟨ad', e', _, d1⟩ := HR.out.at_ hy
        injection e' with e'
        subst e'
        have hly := lastI_at hy
        have g5 : decide ((0 : Int) < ((j + 1 : Nat) : Int)) = true := decide_eq_true (by omega)
        have g6 : (((j + 1 : Nat) : Int) - 1) = (j : Int) := by omega
        have g7 : wrap64 (((j + 1 : Nat) : Int) - 1) = (j : Int) := by unfold wrap64; omega
        have g8 : (0 : Int) ≤ (j : Int) := by omega
        have g9 : (j : Int) < (n : Int) := by omega
        have hk1 : j + 1 + 1 ≤ n := hlt
        obtain ⟨kk, hkk⟩ : ∃ kk, j + 1 = kk := ⟨_, rfl⟩
        rw [hkk] at g5 g6 g7 d0 i1 i2 l1 HN HLx hk1 hly ⊢
        have HJ := Lib.hid hkk
        have g5b : 0 < kk := by omega
        have g5c : (0 : Int) < (kk : Int) := by omega
        have g5d : decide (0 < kk) = true := decide_eq_true g5b
        clear hy hx hk hlt hkk g0 g1 HP HZ
        by_cases hxy : y < x
        · have e3 : decide (x ≤ y) = false := decide_eq_false (by omega)
          have HP2 : Hid (riseI 0 is = riseI (lastI is (kk + 1)) (is.drop (kk + 1))) := Lib.hid (by rw [HN.out, HLx.out, hly, decide_eq_true hxy, decide_eq_true HX.out.2]; rfl)
          have HZ2 : Hid (0 ≤ lastI is (kk + 1)) := Lib.hid (by rw [HLx.out]; have := HX.out; omega)
          clear hxy hly HN
          go_wp2_with fail
          go_roundw
          case rel => exact ⟨kk + 1, hk1, by go_num, HP2, HZ2⟩
          case measure => simp [intOf] <;> omega
        · have e3 : decide (x ≤ y) = true := decide_eq_true (by omega)
          have HF : Hid (membersB is = false) := Lib.hid (by rw [HV.out, HN.out, hly, decide_eq_false hxy]; simp)
          clear hxy hly HN
          go_wp2_with fail
          go_ret
          exact ⟨retB HF.out.symm, rfl⟩
    · obtain rfl : n = k := by omega
      have l1 : decide ((n : Int) < (n : Int)) = false := decide_eq_false (by omega)
      have HF : Hid (membersB is = (decide (2 ≤ n) && decide (n ≤ 8))) := Lib.hid (by rw [HV.out, HP.out, ← HL.out, List.drop_length]; simp [riseI])
      clear hlt hk
      by_cases a2 : 2 ≤ n
      · have q2 : decide ((2 : Int) ≤ (n : Int)) = true := decide_eq_true (by omega)
        have q3 : (2 : Int) ≤ (n : Int) := by omega
        by_cases a8 : n ≤ 8
        · have q4 : decide ((n : Int) ≤ 8) = true := decide_eq_true (by omega)
          have q5 : (n : Int) ≤ 8 := by omega
          have HF2 : Hid (membersB is = true) := Lib.hid (by rw [HF.out]; simp [a2, a8])
          clear a8
          go_wp2_with fail
          go_ret
          exact ⟨retB HF2.out.symm, rfl⟩
        · have q4 : decide ((n : Int) ≤ 8) = false := decide_eq_false (by omega)
          have q5 : ¬ (n : Int) ≤ 8 := by omega
          have HF2 : Hid (membersB is = false) := Lib.hid (by rw [HF.out]; simp [a8])
          clear a8
          go_wp2_with fail
          go_ret
          exact ⟨retB HF2.out.symm, rfl⟩
      · have q2 : decide ((2 : Int) ≤ (n : Int)) = false := decide_eq_false (by omega)
        have q3 : ¬ (2 : Int) ≤ (n : Int) := by omega
        have HF2 : Hid (membersB is = false) := Lib.hid (by rw [HF.out]; simp [a2])
        go_wp2_with fail
        go_ret
        exact ⟨retB HF2.out.symm, rfl⟩

theorem take_snoc_all {α : Type} {p : α → Bool} {l : List α} {k : Nat} {x : α} (h : ∀ v ∈ l.take k, p v = true) (hx : l[k]? = some x) (hp : p x = true) : ∀ v ∈ l.take (k + 1), p v = true := by
  intro v hv
  rw [List.take_add_one, hx, List.mem_append] at hv
  rcases hv with hv | hv
  · exact h v hv
  · simp at hv; rw [hv]; exact hp

set_option maxRecDepth 100000 in
set_option maxHeartbeats 16000000 in
theorem dright_any (A : Option Addr) (n c : Nat) (gs : List Gn) (w : World) (hG : NW w A n gs) (hc : n ≤ c) :
    Calls Try.prog 15 #[.agg #[.slice A n c]] w (Said (.bool (rightG (gsM gs))) w) := by
  obtain ⟨K0, GB⟩ := box1 w 24 #[.slice A n c]
  have HG := Lib.hid hG
  have HNC := Lib.hid hc
  have n9 : n ≤ 100 := hG.small
  have HL := Lib.hid hG.len
  have z0 := K0.cell 0
  clear hG hc
  go_enter Try.func15, Try.ntmps15
  go_wp2_with fail
  clear z0
  go_loopw [10] (fun iv wr => ∃ k : Nat, k ≤ n ∧ iv = .int .i64 (k : Int) ∧ Hid (rightK (gsM gs) k = true) ∧ Blk wr w.heap.size 24 #[.slice A n c] ∧ Below w.heap.size w wr) (fun iv _ => n - (intOf iv).toNat)
  case atStart => exact ⟨0, by omega, rfl, Lib.hid rfl, K0, GB⟩
  case round =>
    clear K0 GB
    obtain ⟨k, hk, rfl, HRK, K0, GB⟩ := hrel
    by_cases hlt : k < n
    · obtain ⟨⟨id, A2, m, c2, is⟩, hx⟩ := elem_at (l := gs) (k := k) (by rw [HL.out]; exact hlt)
      obtain ⟨ad, rfl, _, c0, c1⟩ := (HG.out.below GB).at_ hx
      have HX := Lib.hid hx
      have HX2 : Hid ((gsM gs)[k]? = some (id, is)) := Lib.hid (gsM_at hx)
      have HOKD : Hid (okG (gsM gs) k (id, is) = (decide (lastG (gsM gs) k < id) && decide (id ≤ 8) && membersB is && is.all fun v => !decide (0 < dofV ((gsM gs).take k) v))) := Lib.hid (okG_doc HRK.out)
      have HNO := Lib.hid (fun (h : okG (gsM gs) k (id, is) = false) => right_no (gsM_at hx) h)
      have HLG := Lib.hid (right_pos HRK.out)
      have HM9 : Hid (m ≤ 100) := Lib.hid ((HG.out.each _ (List.mem_of_getElem? hx)).2)
      have HKN : Hid (k + 1 ≤ n) := Lib.hid hlt
      have i1 : (0 : Int) ≤ (k : Int) := by omega
      have i2 : (k : Int) < (n : Int) := by omega
      have l1 : decide ((k : Int) < (n : Int)) = true := decide_eq_true i2
      have KB := Blk.new wr 36 #[.int .i64 id, .slice A2 m c2]
      have K1 := K0.alloc (.cells #[.int .i64 id, .slice A2 m c2] 36)
      have GB1 := GB.alloc GB.size (.cells #[.int .i64 id, .slice A2 m c2] 36)
      have HM := Lib.hid (fun (q : Nat) => dmembers_any A2 m c2 is ((wr.alloc (.cells #[.int .i64 id, .slice A2 m c2] 36)).drewN q) (((HG.out.below GB1).each _ (List.mem_of_getElem? hx)).1.below (below_drewN (Below.refl _ _) q)))
      have y0 := KB.cell 0
      have y1 := KB.cell 1
      have x0 := K1.cell 0
      try dsimp only at HM
      clear K0
      by_cases g0 : id < 1
      · have q0 : decide (id < 1) = true := decide_eq_true g0
        have HF : Hid (rightG (gsM gs) = false) := Lib.hid (HNO.out (by rw [HOKD.out, decide_eq_false (show ¬ lastG (gsM gs) k < id by have := HLG.out; omega)]; rfl))
        clear g0 hx
        go_wp2_with fail
        go_quiet (fail)
        go_wp2
        go_ret
        exact ⟨retB HF.out.symm, below_drewN GB1 _⟩
      have q0 : decide (id < 1) = false := decide_eq_false g0
      by_cases g1 : 8 < id
      · have q1 : decide (8 < id) = true := decide_eq_true g1
        have HF : Hid (rightG (gsM gs) = false) := Lib.hid (HNO.out (by rw [HOKD.out, decide_eq_false (show ¬ id ≤ 8 by omega)]; simp))
        clear g0 g1 hx
        go_wp2_with fail
        go_quiet (fail)
        go_wp2
        go_ret
        exact ⟨retB HF.out.symm, below_drewN GB1 _⟩
      have q1 : decide (8 < id) = false := decide_eq_false g1
      have HID : Hid (0 < id ∧ id ≤ 8) := Lib.hid (by omega)
      cases k with
      | zero =>
        have c0' : wr.cell? ad = some (.int .i64 id) := by have q := c0; rwa [show ad.add (0 * 2) = ad by simp [Addr.add]] at q
        have c1' : wr.cell? ⟨ad.block, ad.off + 1, none⟩ = some (.slice A2 m c2) := by have q := c1; rwa [show ad.add (0 * 2) = ad by simp [Addr.add]] at q
        clear g0 g1 hx hk hlt c0 c1
        have HOK : Hid (okG (gsM gs) 0 (id, is) = (membersB is && is.all fun v => !decide (0 < dofV ((gsM gs).take 0) v))) := Lib.hid (by rw [HOKD.out]; rw [show lastG (gsM gs) 0 = 0 from rfl, decide_eq_true HID.out.1, decide_eq_true HID.out.2]; rfl)
        clear HOKD
        cases hmb : membersB is with
        | false =>
          have HF : Hid (rightG (gsM gs) = false) := Lib.hid (HNO.out (by rw [HOK.out, hmb]; rfl))
          rw [hmb] at HM
          clear hmb
          go_wp2_with fail
          go_quiet ((go_at_call 37; exact (HM.out _).mono fun _ _ h => ⟨h.1, _, h.2.symm⟩))
          go_wp2
          go_ret
          exact ⟨retB HF.out.symm, below_drewN GB1 _⟩
        | true =>
          rw [hmb, Bool.true_and] at HOK
          rw [hmb] at HM
          clear hmb
          go_wp2_with fail
          go_quiet ((go_at_call 37; exact (HM.out _).mono fun _ _ h => ⟨h.1, _, h.2.symm⟩))
          replace K1 := K1.below (below_drewN (Below.refl _ _) nq) K1.lt
          replace KB := KB.below (below_drewN (Below.refl _ _) nq) KB.lt
          replace GB1 := below_drewN GB1 nq
          obtain ⟨X, hX⟩ : ∃ X, (wr.alloc (.cells #[.int .i64 id, .slice A2 m c2] 36)).drewN nq = X := ⟨_, rfl⟩
          rw [hX] at K1 KB GB1 ⊢
          clear hX c0' c1' x0 y0 y1 HM
          have HI := Lib.hid ((HG.out.below GB1).each _ (List.mem_of_getElem? HX.out)).1
          have HLI := Lib.hid HI.out.len
          have m9 : m ≤ 100 := HM9.out
          have KN := Lib.hid (show 0 + 1 ≤ n from HKN.out)
          have y1 := KB.cell 1
          go_wp2_with fail
          clear y1
          have HBASE := Lib.hid (And.intro K1 (And.intro KB GB1))
          clear K1 KB GB1
          have kc0 : (0 : Int) ≤ (0 : Int) := by omega
          have kc1 : (0 : Int) ≤ (c : Int) := by have := HNC.out; have := KN.out; omega
          go_loopw [48] (fun jv wr => ∃ j : Nat, j ≤ m ∧ jv = .int .i64 (j : Int) ∧ Hid (∀ v ∈ is.take j, (!decide (0 < dofV ((gsM gs).take 0) v)) = true) ∧ Below X.heap.size X wr) (fun jv _ => m - (intOf jv).toNat)
          case atStart => exact ⟨0, Nat.zero_le _, rfl, Lib.hid (by simp), Below.refl _ _⟩
          case round =>
            obtain ⟨j, hj, rfl, HA, hB⟩ := hrel
            have K1 := HBASE.out.1.below hB HBASE.out.1.lt
            have KB := HBASE.out.2.1.below hB HBASE.out.2.1.lt
            have GB := HBASE.out.2.2.trans (hB.mono HBASE.out.2.2.size)
            by_cases hjm : j < m
            · obtain ⟨v, hv⟩ := elem_at (l := is) (k := j) (by rw [HLI.out]; exact hjm)
              obtain ⟨ai, rfl, _, v0⟩ := (HI.out.below hB).at_ hv
              have HDo := Lib.hid (dof_any (some ad) 0 c (gs.take 0) v wr ((HG.out.below GB).take (by have := KN.out; omega)))
              rw [gsM_take] at HDo
              have HV := Lib.hid hv
              obtain ⟨D, hD⟩ : ∃ D, dofV ((gsM gs).take 0) v = D := ⟨_, rfl⟩
              rw [hD] at HDo
              have x0 := K1.cell 0
              have j1 : (0 : Int) ≤ (j : Int) := by omega
              have j2 : (j : Int) < (m : Int) := by omega
              have l2 : decide ((j : Int) < (m : Int)) = true := decide_eq_true j2
              clear hv
              by_cases hd : 0 < D
              · have q7 : decide (0 < D) = true := decide_eq_true hd
                have HF : Hid (rightG (gsM gs) = false) := Lib.hid (HNO.out (by
                  rw [HOK.out]
                  apply Bool.eq_false_iff.2
                  intro h
                  have := List.all_eq_true.1 h v (List.mem_of_getElem? HV.out)
                  rw [hD, decide_eq_true hd] at this
                  cases this))
                clear hd hD HA
                go_wp2_with fail
                refine HDo.out.mono ?_
                rintro e w2 ⟨rfl, h9⟩
                replace GB := GB.trans (h9.mono GB.size)
                clear h9 K1 KB x0 hB
                go_wp2_with fail
                go_ret
                exact ⟨retB HF.out.symm, GB⟩
              · have q7 : decide (0 < D) = false := decide_eq_false hd
                have HA2 := Lib.hid (take_snoc_all (p := fun v => !decide (0 < dofV ((gsM gs).take 0) v)) HA.out HV.out (by rw [hD, q7]; rfl))
                clear hd hD HA
                go_wp2_with fail
                refine HDo.out.mono ?_
                rintro e w2 ⟨rfl, h9⟩
                have hB2 := hB.trans (h9.mono hB.size)
                clear h9 K1 KB x0 hB GB
                go_wp2_with fail
                go_roundw
                case rel => exact ⟨j + 1, by omega, by go_num, HA2, hB2⟩
                case measure => simp [intOf] <;> omega
            · obtain rfl : m = j := by omega
              have l2 : decide ((m : Int) < (m : Int)) = false := decide_eq_false (by omega)
              have HR2 : Hid (rightK (gsM gs) (0 + 1) = true) := Lib.hid (by
                rw [rightK_step HX2.out, HRK.out, HOK.out, Bool.true_and]
                have h := HA.out
                rw [← HLI.out, List.take_length] at h
                exact List.all_eq_true.2 h)
              clear hB HA KB
              go_wp2_with fail
              go_roundw
              case rel => exact ⟨0 + 1, KN.out, by go_num, HR2, K1, GB⟩
              case measure => have := KN.out; simp [intOf] <;> omega
      | succ jj =>
        obtain ⟨⟨id', A3, m3, c3, is3⟩, hy⟩ := elem_at (l := gs) (k := jj) (by rw [HL.out]; omega)
        obtain ⟨ad', e', _, d0, d1⟩ := (HG.out.below GB1).at_ hy
        injection e' with e'
        subst e'
        have hly := lastG_at (gsM_at hy)
        have g5 : decide ((0 : Int) < ((jj + 1 : Nat) : Int)) = true := decide_eq_true (by omega)
        have g6 : (((jj + 1 : Nat) : Int) - 1) = (jj : Int) := by omega
        have g7 : wrap64 (((jj + 1 : Nat) : Int) - 1) = (jj : Int) := by unfold wrap64; omega
        have g8 : (0 : Int) ≤ (jj : Int) := by omega
        have g9 : (jj : Int) < (n : Int) := by omega
        obtain ⟨kk, hkk⟩ : ∃ kk, jj + 1 = kk := ⟨_, rfl⟩
        rw [hkk] at g5 g6 g7 c0 c1 i1 i2 l1 HX HX2 HOKD HNO HLG HKN HRK hly ⊢
        have g5b : 0 < kk := by omega
        have g5c : (0 : Int) < (kk : Int) := by omega
        have g5d : decide (0 < kk) = true := decide_eq_true g5b
        clear hy hx hk hlt hkk g0 g1
        by_cases hxy : id' < id
        · have e3 : decide (id ≤ id') = false := decide_eq_false (by omega)
          have HLY := Lib.hid (And.intro hly hxy)
          clear hly hxy
          have HOK : Hid (okG (gsM gs) kk (id, is) = (membersB is && is.all fun v => !decide (0 < dofV ((gsM gs).take kk) v))) := Lib.hid (by rw [HOKD.out]; rw [HLY.out.1]; rw [decide_eq_true (show (gm (id', A3, m3, c3, is3)).1 < id from HLY.out.2), decide_eq_true HID.out.2]; rfl)
          clear HOKD
          cases hmb : membersB is with
          | false =>
            have HF : Hid (rightG (gsM gs) = false) := Lib.hid (HNO.out (by rw [HOK.out, hmb]; rfl))
            rw [hmb] at HM
            clear hmb
            go_wp2_with fail
            go_quiet ((go_at_call 37; exact (HM.out _).mono fun _ _ h => ⟨h.1, _, h.2.symm⟩))
            go_wp2
            go_ret
            exact ⟨retB HF.out.symm, below_drewN GB1 _⟩
          | true =>
            rw [hmb, Bool.true_and] at HOK
            rw [hmb] at HM
            clear hmb
            go_wp2_with fail
            go_quiet ((go_at_call 37; exact (HM.out _).mono fun _ _ h => ⟨h.1, _, h.2.symm⟩))
            replace K1 := K1.below (below_drewN (Below.refl _ _) nq) K1.lt
            replace KB := KB.below (below_drewN (Below.refl _ _) nq) KB.lt
            replace GB1 := below_drewN GB1 nq
            obtain ⟨X, hX⟩ : ∃ X, (wr.alloc (.cells #[.int .i64 id, .slice A2 m c2] 36)).drewN nq = X := ⟨_, rfl⟩
            rw [hX] at K1 KB GB1 ⊢
            clear hX c0 c1 x0 y0 y1 HM d0 d1 g5 g5b g5c g5d g6 g7 g8 g9 e3
            have HI := Lib.hid ((HG.out.below GB1).each _ (List.mem_of_getElem? HX.out)).1
            have HLI := Lib.hid HI.out.len
            have m9 : m ≤ 100 := HM9.out
            have KN := Lib.hid (show kk + 1 ≤ n from HKN.out)
            have y1 := KB.cell 1
            go_wp2_with fail
            clear y1
            have HBASE := Lib.hid (And.intro K1 (And.intro KB GB1))
            clear K1 KB GB1
            have kc0 : (0 : Int) ≤ (kk : Int) := by omega
            have kc1 : (kk : Int) ≤ (c : Int) := by have := HNC.out; have := KN.out; omega
            go_loopw [48] (fun jv wr => ∃ j : Nat, j ≤ m ∧ jv = .int .i64 (j : Int) ∧ Hid (∀ v ∈ is.take j, (!decide (0 < dofV ((gsM gs).take kk) v)) = true) ∧ Below X.heap.size X wr) (fun jv _ => m - (intOf jv).toNat)
            case atStart => exact ⟨0, Nat.zero_le _, rfl, Lib.hid (by simp), Below.refl _ _⟩
            case round =>
              obtain ⟨j, hj, rfl, HA, hB⟩ := hrel
              have K1 := HBASE.out.1.below hB HBASE.out.1.lt
              have KB := HBASE.out.2.1.below hB HBASE.out.2.1.lt
              have GB := HBASE.out.2.2.trans (hB.mono HBASE.out.2.2.size)
              by_cases hjm : j < m
              · obtain ⟨v, hv⟩ := elem_at (l := is) (k := j) (by rw [HLI.out]; exact hjm)
                obtain ⟨ai, rfl, _, v0⟩ := (HI.out.below hB).at_ hv
                have HDo := Lib.hid (dof_any (some ad) kk c (gs.take kk) v wr ((HG.out.below GB).take (by have := KN.out; omega)))
                rw [gsM_take] at HDo
                have HV := Lib.hid hv
                obtain ⟨D, hD⟩ : ∃ D, dofV ((gsM gs).take kk) v = D := ⟨_, rfl⟩
                rw [hD] at HDo
                have x0 := K1.cell 0
                have j1 : (0 : Int) ≤ (j : Int) := by omega
                have j2 : (j : Int) < (m : Int) := by omega
                have l2 : decide ((j : Int) < (m : Int)) = true := decide_eq_true j2
                clear hv
                by_cases hd : 0 < D
                · have q7 : decide (0 < D) = true := decide_eq_true hd
                  have HF : Hid (rightG (gsM gs) = false) := Lib.hid (HNO.out (by
                    rw [HOK.out]
                    apply Bool.eq_false_iff.2
                    intro h
                    have := List.all_eq_true.1 h v (List.mem_of_getElem? HV.out)
                    rw [hD, decide_eq_true hd] at this
                    cases this))
                  clear hd hD HA
                  go_wp2_with fail
                  refine HDo.out.mono ?_
                  rintro e w2 ⟨rfl, h9⟩
                  replace GB := GB.trans (h9.mono GB.size)
                  clear h9 K1 KB x0 hB
                  go_wp2_with fail
                  go_ret
                  exact ⟨retB HF.out.symm, GB⟩
                · have q7 : decide (0 < D) = false := decide_eq_false hd
                  have HA2 := Lib.hid (take_snoc_all (p := fun v => !decide (0 < dofV ((gsM gs).take kk) v)) HA.out HV.out (by rw [hD, q7]; rfl))
                  clear hd hD HA
                  go_wp2_with fail
                  refine HDo.out.mono ?_
                  rintro e w2 ⟨rfl, h9⟩
                  have hB2 := hB.trans (h9.mono hB.size)
                  clear h9 K1 KB x0 hB GB
                  go_wp2_with fail
                  go_roundw
                  case rel => exact ⟨j + 1, by omega, by go_num, HA2, hB2⟩
                  case measure => simp [intOf] <;> omega
              · obtain rfl : m = j := by omega
                have l2 : decide ((m : Int) < (m : Int)) = false := decide_eq_false (by omega)
                have HR2 : Hid (rightK (gsM gs) (kk + 1) = true) := Lib.hid (by
                  rw [rightK_step HX2.out, HRK.out, HOK.out, Bool.true_and]
                  have h := HA.out
                  rw [← HLI.out, List.take_length] at h
                  exact List.all_eq_true.2 h)
                clear hB HA KB
                go_wp2_with fail
                go_roundw
                case rel => exact ⟨kk + 1, KN.out, by go_num, HR2, K1, GB⟩
                case measure => have := KN.out; simp [intOf] <;> omega
        · have e3 : decide (id ≤ id') = true := decide_eq_true (by omega)
          have HF : Hid (rightG (gsM gs) = false) := Lib.hid (HNO.out (by rw [HOKD.out, hly, decide_eq_false (show ¬ (gm (id', A3, m3, c3, is3)).1 < id from hxy)]; rfl))
          clear hxy hly
          go_wp2_with fail
          go_quiet (fail)
          go_wp2
          go_ret
          exact ⟨retB HF.out.symm, below_drewN GB1 _⟩
    · obtain rfl : n = k := by omega
      have l1 : decide ((n : Int) < (n : Int)) = false := decide_eq_false (by omega)
      have HF : Hid (rightG (gsM gs) = true) := Lib.hid (by unfold rightG; rw [gsM_len, HL.out]; exact HRK.out)
      go_wp2
      go_ret
      exact ⟨retB HF.out.symm, GB⟩

end Go.Proofs.Ytglphgfaknofcaa
