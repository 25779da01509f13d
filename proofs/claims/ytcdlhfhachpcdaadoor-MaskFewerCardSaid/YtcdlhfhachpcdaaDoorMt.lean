/-
  The landed mask: the closure at a set that was not looked for; every call of it. No statement is proved here.
-/
import Derived.Test.YtcdlhfhachpcdaaDoorMs
namespace Go.Proofs.YtcdlhfhachpcdaaDoor
open Go.RowKit Go.Maps

theorem allows_nat {x y : Int} {s : Nat} (hr : rightM (x, y) = true) (h8 : s < 256) : allowsR (x, y) (s : Int) = x.toNat &&& s := by
  unfold allowsR alN
  rw [hr, decide_eq_true (by omega)]
  rfl
theorem out_nat {s x : Nat} (h8 : s < 256) (hx : x < 8) (hb : s.testBit x = true) : outV (s : Int) (x : Int) = (((s - 2 ^ x : Nat) : Int), 0) := by
  have hc : cpuB (x : Int) = true := cpuB_yes (by omega) (by omega)
  have hh : hasB (s : Int) (x : Int) = true := by rw [has_bit hx]; exact hb
  unfold outV
  rw [if_pos (by omega), if_pos hc, if_pos hh, Int.toNat_natCast]
  have hle : 2 ^ x ≤ s := Nat.ge_two_pow_of_testBit hb
  congr 1
  push_cast [hle]
  rfl
theorem cost_fit {K m j n n' : Nat} (h0 : K = 0 → m = 0) (hj : j ≤ m) (hm : m ≤ 8) (h : n' ≤ n + 1 + j * costN (K - 1)) : n' + 1 ≤ n + costN K := by
  have h3 := cost_one K
  by_cases hK : K = 0
  · have : j = 0 := by have := h0 hK; omega
    subst this
    omega
  · have hs := cost_step (K - 1)
    rw [show K - 1 + 1 = K by omega] at hs
    have : j * costN (K - 1) ≤ 8 * costN (K - 1) := Nat.mul_le_mul_right _ (by omega)
    omega
theorem cost_go {K m j n n' B : Nat} (hK : 1 ≤ K) (hj : j < m) (hm : m ≤ 8) (h : n' ≤ n + 1 + j * costN (K - 1)) (hn : n + costN K ≤ B) : n' + costN (K - 1) ≤ B := by
  have hs := cost_step (K - 1)
  rw [show K - 1 + 1 = K by omega] at hs
  have h1 : (j + 1) * costN (K - 1) ≤ 8 * costN (K - 1) := Nat.mul_le_mul_right _ (by omega)
  rw [Nat.add_mul] at h1
  omega
theorem memN_none {a : Nat} (h : popN a = 0) {s : Nat} : (memN (s &&& a)).length = 0 := by
  rw [List.length_eq_zero_iff, memN, List.filter_eq_nil_iff]
  intro c hc hb
  rw [Nat.testBit_and, Bool.and_eq_true] at hb
  have := pop_less (List.mem_range.1 hc) hb.2
  omega

/-- a round's state -/
structure Rnd (H : List Nat) (N bl bm bf bk : Nat) (A : Option Addr) (M c : Nat) (l : List (Int × Int)) (K left : Nat) (F : Nat → Option Int) (n : Nat) (ys : List Nat) (q : Nat → Bool) (w : World) (base : Nat) (v : Value) (j : Nat) (D' : DataW Unit) (F' : Nat → Option Int) (n' : Nat) (wr : World) : Prop where
  lies : Lies bl bm bf bk A M c l wr
  map : MapW wr bm n' D'
  rep : Rep D' F'
  good : Good H N K F'
  ext : Ext K (upd F left (-1)) F'
  cost : n' ≤ n + 1 + j * costN (K - 1)
  find : (ys.drop j).find? q = ys.find? q
  grown : w.grownBy wr (some bm)
  row : wr.ownsRow base 3 1 v ys.length (vs (ints ys))

section
variable (bl bm bf bk : Nat) (A : Option Addr) (M c : Nat) (l : List (Int × Int)) (N : Nat)

set_option maxRecDepth 100000 in
set_option maxHeartbeats 8000000 in
theorem look_new (K p left : Nat) (F : Nat → Option Int) (D : DataW Unit) (n : Nat) (w : World) (S : Lies bl bm bf bk A M c l w) (hM : MapW w bm n D) (hRep : Rep D F) (hG : Good (hards l) N (K + 1) F) (hp : p < M) (hl : l.length = M) (h8 : left < 256) (hK : popN left = K) (hN : p + K = N)
    (h0 : F left = none) (hR : ∀ (k : Nat) (m : Int × Int), l[k]? = some m → rightM m = true) (hU : ∀ (k : Nat) (m : Int × Int), l[k]? = some m → UM m) (hn : n + costN K ≤ 1000000000000) (h100 : M ≤ 100) (o1 : bl < bm) (o2 : bm < bf) (o3 : bm < bk)
    (IH : ∀ (x : Nat) (F1 : Nat → Option Int) (D1 : DataW Unit) (n1 : Nat) (w1 : World), x < 8 → left.testBit x = true → Lies bl bm bf bk A M c l w1 → MapW w1 bm n1 D1 → Rep D1 F1 → Good (hards l) N K F1 → n1 + costN (K - 1) ≤ 1000000000000 →
      Calls Tryd.prog 46 (lookArgs bl bf bk ((p : Int) + 1) (left - 2 ^ x)) w1 (LookSaid (hards l) N bm (K - 1) (p + 1) (left - 2 ^ x) F1 n1 (fitsN ((hards l).drop (p + 1)) (left - 2 ^ x)) w1)) :
    Calls Tryd.prog 46 (lookArgs bl bf bk p left) w (LookSaid (hards l) N bm K p left F n (fitsN ((hards l).drop p) left) w) := by
  obtain ⟨⟨x0, y0⟩, hm⟩ := elem_at (l := l) (k := p) (by omega)
  obtain ⟨ad, rfl, _, _, _⟩ := mask_at S.row hm
  have hd : (hards l).drop p = x0.toNat :: (hards l).drop (p + 1) := hards_drop hm
  have hr := hR _ _ hm
  have hum := hU _ _ hm
  have HA := Lib.hid (fun (u : World) => allows_any x0 y0 (left : Int) u hum.1 hum.2 ⟨by omega, by omega⟩)
  have ha : allowsR (x0, y0) (left : Int) = x0.toNat &&& left := allows_nat hr h8
  have ha8 : x0.toNat &&& left < 256 := by rw [Nat.and_comm]; exact and_lt h8
  rw [ha] at HA
  have hfirst := first_memN x0.toNat ((hards l).drop (p + 1)) left
  have hnone : K = 0 → (memN (x0.toNat &&& left)).length = 0 := fun h => memN_none (hK.trans h)
  have hbit : ∀ (k x : Nat), (memN (x0.toNat &&& left))[k]? = some x → x < 8 ∧ left.testBit x = true := fun k x hx => by
    obtain ⟨h1, h2⟩ := memN_at hx
    rw [Nat.testBit_and, Bool.and_eq_true] at h2
    exact ⟨h1, h2.2⟩
  have hlen := memN_len (x0.toNat &&& left)
  have HLi := Lib.hid (fun (u : World) (h : Db u) => list_any ((x0.toNat &&& left : Nat) : Int) u (by omega) (by omega) h)
  rw [mem_ints] at HLi
  generalize x0.toNat &&& left = a at *
  generalize memN a = ys at *
  generalize hQ : (LookSaid (hards l) N bm K p left F n (fitsN ((hards l).drop p) left) w) = Q
  have HQ : Hid (∀ (e : Ending) (w' : World), LookSaid (hards l) N bm K p left F n (fitsN ((hards l).drop p) left) w e w' → Q e w') := Lib.hid (fun e w' h => hQ ▸ h)
  clear hQ
  have c0 : w.cell? ⟨bl, 0, none⟩ = some (.slice (some ad) M c) := S.atL.cell 0
  have c1 : w.cell? ⟨bf, 0, none⟩ = some (.map (some bm)) := S.atF.cell 0
  have hz : ((p : Int) == (M : Int)) = false := by simp; omega
  have HKEY := Lib.hid (key_of h8)
  have hh : Maps.has D (keyL left) = false := by rw [(hRep left).2, h0]; rfl
  have j0 : (0 : Int) ≤ (p : Int) := by omega
  have j1 : (p : Int) < (M : Int) := by omega
  have jw : IntKind.i64.wrap ((p : Int) + 1) = (p : Int) + 1 := IntWalk.i64_in _ (by omega)
  have jt : ((p : Int)).toNat = p := by omega
  have hmx : n < maxLen := by have := cost_one K; simp only [maxLen]; omega
  have HF := Lib.hid (show Rep D F ∧ Good (hards l) N (K + 1) F ∧ F left = none ∧ popN left = K ∧ left < 256 ∧ p + K = N ∧ n + costN K ≤ 1000000000000 ∧ (hards l).drop p = x0.toNat :: (hards l).drop (p + 1) ∧ p < (hards l).length from ⟨hRep, hG, h0, hK, h8, hN, hn, hd, by rw [length_hards]; omega⟩)
  have HM := Lib.hid hM
  have HS := Lib.hid S
  have HMask := Lib.hid hm
  have HB := Lib.hid hbit
  have HN0 := Lib.hid hnone
  have HFi := Lib.hid hfirst
  have HL8 := Lib.hid hlen
  have HO := Lib.hid (And.intro o1 (And.intro o2 o3))
  have HIH := Lib.hid IH
  have HMX := Lib.hid hmx
  have HLt := Lib.hid hp
  clear hRep hG h0 hK h8 hN hn hd hM S hm hbit hnone hfirst hlen o1 o2 o3 IH hmx hr hR hU hum ha ha8 hp hl h100
  go_enter Tryd.func46, Tryd.ntmps46
  go_wp2_with (first
    | (at_lookup; refine wpList_lookup_own_ok_int _ rfl _ _ 66 rfl 23 3 .i64 key_law Tryd.underlying66 Tryd.underlying3 (zero_int _) bm n D rfl HM.out _ (keyL left) rfl HKEY.out ?_; intro cv hat _; clear hat)
    | (at_mapUpdate; refine wpList_mapUpdate_own _ rfl _ _ _ 66 rfl 23 3 key_law Tryd.underlying66 _ bm n D rfl HM.out HMX.out _ _ (keyL left) rfl rfl HKEY.out (.lit (.int .i64 (-1))) [] (plainElem_int Tryd.underlying3 (by decide)) ?_; intro w1 own1 grow1; have S1 := HS.out.grown grow1 HO.out.1 HO.out.2.1 HO.out.2.2; have d0 : w1.cell? ⟨bl, 0, none⟩ = some (.slice (some ad) M c) := S1.atL.cell 0; obtain ⟨d1, d2⟩ := mask_cells S1.row HMask.out))
  refine (HA.out _).mono ?_
  rintro e w2 ⟨rfl, h2⟩
  have S2 := S1.grown (grown_of_below h2 _) HO.out.1 HO.out.2.1 HO.out.2.2
  have own2 := own1.kept (grown_of_below h2 none) (by simp)
  have grow2 := grow1.trans (grown_of_below h2 _)
  clear h2 own1 grow1 S1 d0 d1 d2 c0 c1 HA
  go_wp2_with fail
  refine (HLi.out _ S2.db).mono ?_
  rintro e w3 ⟨A3, c3, rfl, row3, h3⟩
  rw [length_ints] at row3 ⊢
  have S3 := S2.grown (grown_of_below h3 _) HO.out.1 HO.out.2.1 HO.out.2.2
  have own3 := own2.kept (grown_of_below h3 none) (by simp)
  have grow3 := grow2.trans (grown_of_below h3 _)
  have hb2 := Lib.hid S2.size
  have HK8 : Hid (K ≤ N ∧ N - K < (hards l).length) := Lib.hid (by obtain ⟨_, _, _, _, _, e1, _, _, e2⟩ := HF.out; omega)
  have HR0 : Hid (Rnd (hards l) N bl bm bf bk (some ad) M c l K left F n ys (fun c => fitsN ((hards l).drop (p + 1)) (left - 2 ^ c)) w w2.heap.size (.slice A3 ys.length c3) 0 (D.put (keyL left) (.lit (.int .i64 (-1)))) (upd F left (-1)) (n + 1) w3) := Lib.hid ⟨S3, own3, rep_put HF.out.1 HM.out.isMap left (-1), good_enter HF.out.2.1 HF.out.2.2.1 HF.out.2.2.2.1 HF.out.2.2.2.2.1 HK8.out.1 HK8.out.2, Ext.refl _ _, by omega, rfl, grow3, row3⟩
  clear h3 own2 own3 grow2 grow3 S2 S3 row3 HLi
  generalize w2.heap.size = base at *
  generalize hm8 : ys.length = m at *
  have HM8 := Lib.hid hm8
  have hm9 : m ≤ 8 := HL8.out
  clear hm8
  go_wp2_with fail
  go_loopw [37] (fun i wr => ∃ (j : Nat) (D' : DataW Unit) (F' : Nat → Option Int) (n' : Nat), j ≤ m ∧ i = .int .i64 (j : Int) ∧ Hid (Rnd (hards l) N bl bm bf bk (some ad) M c l K left F n ys (fun c => fitsN ((hards l).drop (p + 1)) (left - 2 ^ c)) w base (.slice A3 m c3) j D' F' n' wr)) (fun i _ => m - (intOf i).toNat)
  case atStart => exact ⟨0, _, _, _, by omega, rfl, HR0⟩
  case round =>
    clear HR0
    obtain ⟨j, D', F', n', hj, rfl, HRj⟩ := hrel
    by_cases hlt : j < m
    · have hrow := HRj.out.row
      rw [HM8.out] at hrow
      obtain ⟨ad2, u, rfl, _, hu, e0⟩ := (Reads.of_own hrow).at_ hlt
      clear hrow
      obtain ⟨x, hx, rfl⟩ := ints_at hu
      obtain ⟨x8, hxb⟩ := HB.out j x hx
      have hK1 : popN left = popN (left - 2 ^ x) + 1 := pop_less x8 hxb
      have hK2 : 1 ≤ K := by have := HF.out.2.2.2.1; omega
      have HW := Lib.hid (fun (u : World) => out_any (left : Int) (x : Int) u (by omega) (by have := HF.out.2.2.2.2.1; omega))
      rw [out_nat HF.out.2.2.2.2.1 x8 hxb] at HW
      have HC := Lib.hid (HIH.out x F' D' n' wr x8 hxb HRj.out.lies HRj.out.map HRj.out.rep HRj.out.good (cost_go hK2 hlt hm9 HRj.out.cost HF.out.2.2.2.2.2.2.1))
      have e1 : wr.cell? ⟨bk, 0, none⟩ = some (lookClo bl bf bk) := HRj.out.lies.atK.cell 0
      unfold lookClo at e1
      have hx0 : (0 : Int) ≤ (x : Int) := by omega
      have HX := Lib.hid (show ys[j]? = some x ∧ x < 8 ∧ left.testBit x = true ∧ 1 ≤ K ∧ j < m from ⟨hx, x8, hxb, hK2, hlt⟩)
      have hk0 : (0 : Int) ≤ (j : Int) := by omega
      have hk1 : (j : Int) < (m : Int) := by omega
      clear hu hx hxb hK1 hK2
      cases hq : fitsN ((hards l).drop (p + 1)) (left - 2 ^ x) with
      | false =>
        rw [hq] at HC
        have HQF := Lib.hid hq
        clear hq
        go_wp2_with fail
        refine (HW.out _).mono ?_
        rintro e w4 ⟨rfl, rfl⟩
        go_wp2_with fail
        refine HC.out.mono ?_
        rintro e w4 ⟨rfl, g4, D4, F4, n4, hn4, M4, R4, G4, E4, -⟩
        rw [Nat.sub_add_cancel HX.out.2.2.2.1] at G4 E4
        have HRn : Hid (Rnd (hards l) N bl bm bf bk (some ad) M c l K left F n ys (fun c => fitsN ((hards l).drop (p + 1)) (left - 2 ^ c)) w base (.slice (some ad2) m c3) (j + 1) D4 F4 n4 w4) := Lib.hid ⟨HRj.out.lies.grown g4 HO.out.1 HO.out.2.1 HO.out.2.2, M4, R4, G4, HRj.out.ext.trans E4, by have := HRj.out.cost; rw [Nat.add_mul]; omega, (find_miss HX.out.1 HQF.out).symm.trans HRj.out.find, HRj.out.grown.trans g4, own_grown HRj.out.row g4 hb2.out⟩
        clear g4 M4 R4 G4 E4 hn4 HRj HC e0 e1
        go_wp2
        go_roundw
        case rel => exact ⟨j + 1, _, _, _, HX.out.2.2.2.2, by go_num, HRn⟩
        case measure => have := HX.out.2.2.2.2; simp [intOf] <;> omega
      | true =>
        rw [hq] at HC
        have HQT := Lib.hid hq
        clear hq
        go_wp2_with fail
        refine (HW.out _).mono ?_
        rintro e w4 ⟨rfl, rfl⟩
        go_wp2_with fail
        refine HC.out.mono ?_
        rintro e w4 ⟨rfl, g4, D4, F4, n4, hn4, M4, R4, G4, E4, hf4⟩
        rw [Nat.sub_add_cancel HX.out.2.2.2.1] at G4 E4
        have S4 := HRj.out.lies.grown g4 HO.out.1 HO.out.2.1 HO.out.2.2
        have e2 : w4.cell? ⟨bf, 0, none⟩ = some (.map (some bm)) := S4.atF.cell 0
        have hc : firstC x0.toNat ((hards l).drop (p + 1)) left = some x := by rw [HFi.out, ← HRj.out.find]; exact find_hit HX.out.1 HQT.out
        have hfit : fitsN ((hards l).drop p) left = true := by rw [HF.out.2.2.2.2.2.2.2.1]; exact fits_of_first hc
        have hcost : n4 + 1 ≤ n + costN K := cost_fit (j := j + 1) (m := m) HN0.out HX.out.2.2.2.2 HL8.out (by have := HRj.out.cost; rw [Nat.add_mul]; omega)
        have hnx : p + 1 = (hards l).length ∨ ∃ c' : Nat, F4 (left - 2 ^ x) = some (c' : Int) := by
          by_cases hpl : p + 1 < (hards l).length
          · obtain ⟨v, hv, hc'⟩ := hf4 hpl
            obtain ⟨c', rfl⟩ := hc' rfl
            exact .inr ⟨c', hv⟩
          · exact .inl (by have := HF.out.2.2.2.2.2.2.2.2; omega)
        have hgh := good_hit HF.out.2.1 HF.out.2.2.1 HF.out.2.2.2.1 HF.out.2.2.2.2.1 HK8.out.1 G4 (HRj.out.ext.trans E4) HF.out.2.2.2.2.2.1 HF.out.2.2.2.2.2.2.2.1 hc hnx
        have HFin := Lib.hid (show Rep D4 F4 ∧ (Good (hards l) N (K + 1) (upd F4 left (x : Int)) ∧ Ext (K + 1) F (upd F4 left (x : Int))) ∧ n4 + 1 ≤ n + costN K ∧ w.grownBy w4 (some bm) from ⟨R4, hgh, hcost, HRj.out.grown.trans g4⟩)
        have HM4 := Lib.hid M4
        have HMX4 : Hid (n4 < maxLen) := Lib.hid (by have := HF.out.2.2.2.2.2.2.1; simp only [maxLen]; omega)
        have HWF : Hid ((Lit.int .i64 (x : Int)).wf = true) := Lib.hid (WalkArith.wf_i64 (by omega))
        have HFT := Lib.hid hfit
        clear g4 M4 R4 G4 E4 hn4 hf4 HRj HC e0 e1 S4 hc hfit hcost hnx hgh
        go_wp2_with (at_mapUpdate; refine wpList_mapUpdate_own _ rfl _ _ _ 66 rfl 23 3 key_law Tryd.underlying66 _ bm n4 D4 rfl HM4.out HMX4.out _ _ (keyL left) rfl rfl HKEY.out (.lit (.int .i64 (x : Int))) [] (plainElem_int Tryd.underlying3 HWF.out) ?_; intro w5 own5 grow5)
        refine HQ.out _ _ ⟨by rw [HFT.out]; rfl, HFin.out.2.2.2.trans grow5, _, _, _, HFin.out.2.2.1, own5, rep_put HFin.out.1 HM4.out.isMap left (x : Int), HFin.out.2.1.1, HFin.out.2.1.2, fun _ => ⟨(x : Int), upd_same, fun _ => ⟨x, rfl⟩⟩⟩
    · obtain rfl : m = j := by omega
      have hc : firstC x0.toNat ((hards l).drop (p + 1)) left = none := by rw [HFi.out, ← HRj.out.find, ← HM8.out, List.drop_length]; rfl
      have hfit : fitsN ((hards l).drop p) left = false := by rw [HF.out.2.2.2.2.2.2.2.1]; exact unfit_of_none hc
      have hcost : n' + 1 ≤ n + costN K := cost_fit (j := m) (m := m) HN0.out (Nat.le_refl _) HL8.out HRj.out.cost
      have hgm := good_miss HF.out.2.1 HF.out.2.2.1 HF.out.2.2.2.1 HRj.out.good HRj.out.ext HF.out.2.2.2.2.2.1 HF.out.2.2.2.2.2.2.2.1 hc
      have HFin := Lib.hid (HQ.out (.returned (.bool false)) wr ⟨by rw [hfit], HRj.out.grown, D', F', n', by omega, HRj.out.map, HRj.out.rep, hgm.1, hgm.2, fun _ => ⟨-1, HRj.out.ext.1 _ _ upd_same, fun h => by rw [hfit] at h; cases h⟩⟩)
      clear hc hfit hcost hgm
      go_wp2
      exact HFin.out

theorem look_any (hl : l.length = M) (hR : ∀ (k : Nat) (m : Int × Int), l[k]? = some m → rightM m = true) (hU : ∀ (k : Nat) (m : Int × Int), l[k]? = some m → UM m) (h100 : M ≤ 100) (o1 : bl < bm) (o2 : bm < bf) (o3 : bm < bk) (K : Nat) :
    ∀ (left p : Nat) (F : Nat → Option Int) (D : DataW Unit) (n : Nat) (w : World), popN left = K → Lies bl bm bf bk A M c l w → MapW w bm n D → Rep D F → Good (hards l) N (K + 1) F → p ≤ M → left < 256 → p + K = N → n + costN K ≤ 1000000000000 →
      Calls Tryd.prog 46 (lookArgs bl bf bk p left) w (LookSaid (hards l) N bm K p left F n (fitsN ((hards l).drop p) left) w) := by
  induction K with
  | zero =>
    intro left p F D n w hK S hM hRep hG hp h8 hN hn
    by_cases hpm : p = M
    · exact look_all bl bm bf bk A M c l N 0 p left F D n w S hM hRep hG hpm hl
    · cases hv : F left with
      | some v => exact look_memo bl bm bf bk A M c l N 0 p left F D n w S hM hRep hG (by omega) hl h8 hK hN hv
      | none => exact look_new bl bm bf bk A M c l N 0 p left F D n w S hM hRep hG (by omega) hl h8 hK hN hv hR hU hn h100 o1 o2 o3 (fun x _ _ _ _ hx hb => by have := pop_less hx hb; omega)
  | succ K ih =>
    intro left p F D n w hK S hM hRep hG hp h8 hN hn
    by_cases hpm : p = M
    · exact look_all bl bm bf bk A M c l N (K + 1) p left F D n w S hM hRep hG hpm hl
    · cases hv : F left with
      | some v => exact look_memo bl bm bf bk A M c l N (K + 1) p left F D n w S hM hRep hG (by omega) hl h8 hK hN hv
      | none =>
        refine look_new bl bm bf bk A M c l N (K + 1) p left F D n w S hM hRep hG (by omega) hl h8 hK hN hv hR hU hn h100 o1 o2 o3 (fun x F1 D1 n1 w1 hx hb S1 M1 R1 G1 hn1 => ?_)
        have hpop := pop_less hx hb
        have e : (p : Int) + 1 = ((p + 1 : Nat) : Int) := by omega
        rw [e]
        exact ih (left - 2 ^ x) (p + 1) F1 D1 n1 w1 (by omega) S1 M1 R1 G1 (by omega) (Nat.lt_of_le_of_lt (Nat.sub_le _ _) h8) (by omega) hn1
end

end Go.Proofs.YtcdlhfhachpcdaaDoor
