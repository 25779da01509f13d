/-
  The laws' copied; the document's Right, At, With. No statement is proved here.
-/
import Derived.Test.YtbhcpkmofnfjgaaWh
namespace Go.Proofs.Ytbhcpkmofnfjgaa
open Go.RowKit

/-- a wheel in memory of its own -/
def WGot (now : Int) (ts : List Tm) (w : World) (e : Ending) (w' : World) : Prop :=
  ∃ A n c, e = .returned (.agg #[.int .i64 now, .slice A n c]) ∧ ts.length = n ∧ w'.ownsRow w.heap.size 44 2 (.slice A n c) n (flat tv ts) ∧ Below w.heap.size w w'
theorem set1 {w w1 : World} {g b : Nat} {t : TypeId} {p q y : Value} (K : Blk w1 g t #[p, q]) (B : Below b w w1) (hg : b ≤ g) : Blk (w1.setCell ⟨g, 1, none⟩ y) g t #[p, y] ∧ Below b w (w1.setCell ⟨g, 1, none⟩ y) :=
  ⟨by have := K.set_ 1 y; simpa using this, B.setCell (p := ⟨g, 1, none⟩) hg y⟩

set_option maxRecDepth 100000 in
set_option maxHeartbeats 4000000 in
theorem copied_any (now : Int) (A : Option Addr) (n c : Nat) (ts : List Tm) (w : World) (hG : WR w A n ts) :
    Calls Try.prog 9 #[.agg #[.int .i64 now, .slice A n c]] w (WGot now ts w) := by
  obtain ⟨i0, hi0, hz0, hz1, hz2⟩ := info_parts9 tm_info
  obtain ⟨K0, K1, GB⟩ := blks2 w 24 24 #[.int .i64 now, .slice A n c] #[.int .i64 0, .slice none 0 0]
  have n9 := hG.small
  have HLn := Lib.hid hG.len
  have HR := Lib.hid ((hG.below GB).row)
  have hsz : ((w.alloc (.cells #[.int .i64 now, .slice A n c] 24)).alloc (.cells #[.int .i64 0, .slice none 0 0] 24)).heap.size = w.heap.size + 1 + 1 := by simp
  have z0 := K0.cell 0
  have z1 := K0.cell 1
  clear hG
  go_enter Try.func9, Try.ntmps9
  go_upto_region 1 with fail
  generalize (w.alloc (.cells #[.int .i64 now, .slice A n c] 24)).alloc (.cells #[.int .i64 0, .slice none 0 0] 24) = X at K0 K1 GB HR hsz z0 z1 ⊢
  have HRX := Lib.hid ((HR.out.alloc (Nat.le_refl _) (.cells #[] 44)))
  have O0 : (X.alloc (.cells #[] 44)).ownsRow (w.heap.size + 1 + 1) 44 2 (.slice (some ⟨w.heap.size + 1 + 1, 0, none⟩) 0 0) 0 [] := by rw [← hsz]; simpa using World.ownsRow_made X #[] 0 (Nat.le_refl _) (by simp [maxLen]) (by simp)
  have K0a := K0.alloc (.cells #[] 44)
  have K1a := K1.alloc (.cells #[] 44)
  have GBa := GB.alloc GB.size (.cells #[] 44)
  have y0 := K0a.cell 0
  have y1 := K0a.cell 1
  clear HR
  go_upto_region 2 with (first
    | (at_builtin
       refine wpList_append_any _ rfl (.tmp 3) (.tmp 5) 22 rfl (w.heap.size + 1 + 1) 44 i0 (.agg #[.int .i64 0, .int .i64 0]) 2 16 Try.underlying22 hi0 hz0 hz1 hz2 rfl (by decide) (.slice (some ⟨w.heap.size + 1 + 1, 0, none⟩) 0 0) 0 [] rfl O0 X.heap.size A n c (flat tv ts) rfl HRX.out (tv_ones ts) (by simp only [maxLen]; omega) (by omega) (by simp [hsz]) ?_
       intro v9 w9 own9 grow9 hw9
       rw [List.nil_append, Nat.zero_add] at own9
       have K0b := K0a.own O0 grow9 (by omega)
       have K1b := K1a.own O0 grow9 (by omega)
       have GBb := GBa.grown grow9 (by simp [hsz]; omega) (fun g hg => by have := (O0.lt g hg).1; omega)
       obtain ⟨A9, c9, rfl, _, _⟩ := own_reads own9
       have HT := Lib.hid (And.intro own9 (And.intro K0b (And.intro K1b GBb)))
       have x1 := K0b.cell 1
       have x2 := K0b.frozen 1
       clear own9 grow9 hw9 K0b K1b GBb K0 K1 GB K0a K1a GBa z0 z1 y0 y1 O0))
  have HP1 := set1 (y := .slice A9 n c9) HT.out.2.1 HT.out.2.2.2 (Nat.le_refl _)
  have K1c := HT.out.2.2.1.far (p := ⟨w.heap.size, 1, none⟩) (by dsimp only; omega) (.slice A9 n c9)
  have O1 := own_set HT.out.1 (g := w.heap.size) (by omega) 1 (.slice A9 n c9)
  clear x1 x2 HT
  generalize w9.setCell ⟨w.heap.size, 1, none⟩ (.slice A9 n c9) = Y at HP1 K1c O1 ⊢
  have z0 := HP1.1.cell 0
  have z1 := HP1.1.cell 1
  have d0 := K1c.cell 0
  have d1 := K1c.cell 1
  have f0 := K1c.frozen 0
  have f1 := K1c.frozen 1
  have HP := Lib.hid (put2 (x := .int .i64 now) (y := .slice A9 n c9) K1c HP1.2 (by omega))
  have HO := Lib.hid (own_set (own_set O1 (g := w.heap.size + 1) (by omega) 0 (.int .i64 now)) (g := w.heap.size + 1) (by omega) 1 (.slice A9 n c9))
  clear HP1 K1c O1
  go_wp2_with fail
  exact bodyPost_ret (v := .agg #[.int .i64 now, .slice A9 n c9]) (results_cell_row Try.results9 _ _ _ _ _ _ rfl HP.out.1 Try.underlying24 rfl (by kernel_rfl)) rfl ⟨_, _, _, rfl, HLn.out, own_down HO.out (by omega), HP.out.2⟩

def lastT (ts : List Tm) : Nat → Int
  | 0 => -1
  | k + 1 => (ts.getD k (0, 0)).1
theorem lastT_at {ts : List Tm} {k : Nat} {x : Tm} (h : ts[k]? = some x) : lastT ts (k + 1) = x.1 := by show (ts.getD k (0, 0)).1 = x.1; rw [List.getD_eq_getElem?_getD, h]; rfl
theorem chk_len {now : Int} {ts : List Tm} (h : 32 < ts.length) : chkW now ts = false := by
  cases hc : chkW now ts with
  | false => rfl
  | true => have := (chkW_iff.1 hc).2.2.len; omega
set_option maxRecDepth 100000 in
set_option maxHeartbeats 8000000 in
theorem right_any (now : Int) (A : Option Addr) (n c : Nat) (ts : List Tm) (w : World) (hG : WR w A n ts) : Calls Try.prog 14 #[.agg #[.int .i64 now, .slice A n c]] w (Said (.bool (chkW now ts)) w) := by
  obtain ⟨K0, GB⟩ := box1 w 24 #[.int .i64 now, .slice A n c]
  have HG := Lib.hid hG
  have HL := Lib.hid hG.len
  have n9 : n ≤ 1000 := hG.small
  have HV : Hid (chkW now ts = (decide (0 ≤ now) && decide (now ≤ 1125899906842624) && riseT now (-1) ts)) := Lib.hid rfl
  have z0 := K0.cell 0
  have z1 := K0.cell 1
  clear hG
  cases h0 : decide (0 ≤ now) with
  | false =>
    rw [h0] at HV
    have e0 : decide (now < 0) = true := by simp only [decide_eq_false_iff_not, decide_eq_true_eq] at h0 ⊢; omega
    clear h0
    go_enter Try.func14, Try.ntmps14
    go_wp2
    go_ret
    exact ⟨retB (by rw [HV.out]; rfl), GB⟩
  | true =>
    rw [h0] at HV
    have e0 : decide (now < 0) = false := by simp only [decide_eq_false_iff_not, decide_eq_true_eq] at h0 ⊢; omega
    clear h0
    cases h1 : decide (now ≤ 1125899906842624) with
    | false =>
      rw [h1] at HV
      have e1 : decide (1125899906842624 < now) = true := by simp only [decide_eq_false_iff_not, decide_eq_true_eq] at h1 ⊢; omega
      clear h1
      go_enter Try.func14, Try.ntmps14
      go_wp2
      go_ret
      exact ⟨retB (by rw [HV.out]; rfl), GB⟩
    | true =>
      rw [h1, Bool.true_and, Bool.true_and] at HV
      have e1 : decide (1125899906842624 < now) = false := by simp only [decide_eq_false_iff_not, decide_eq_true_eq] at h1 ⊢; omega
      clear h1
      by_cases h32 : 32 < n
      · have e2 : decide ((32 : Int) < (n : Int)) = true := decide_eq_true (by omega)
        have HE : Hid (chkW now ts = false) := Lib.hid (chk_len (by rw [HL.out]; exact h32))
        clear h32
        go_enter Try.func14, Try.ntmps14
        go_wp2
        go_ret
        exact ⟨retB HE.out.symm, GB⟩
      have e2 : decide ((32 : Int) < (n : Int)) = false := decide_eq_false (by omega)
      clear h32
      go_enter Try.func14, Try.ntmps14
      go_wp2_with fail
      clear z0 z1
      go_loopw [3] (fun i wr => ∃ (k : Nat), k ≤ n ∧ i = .int .i64 (k : Int) ∧ Hid (chkW now ts = riseT now (lastT ts k) (ts.drop k)) ∧ Blk wr w.heap.size 24 #[.int .i64 now, .slice A n c] ∧ Below w.heap.size w wr) (fun i _ => n - (intOf i).toNat)
      case atStart => exact ⟨0, Nat.zero_le _, rfl, HV, K0, GB⟩
      case round =>
        clear K0 GB HV
        obtain ⟨k, hk, rfl, HC, K0, GB⟩ := hrel
        have z1 := K0.cell 1
        by_cases hlt : k < n
        · obtain ⟨⟨a, b⟩, hx⟩ := elem_at (l := ts) (k := k) (by rw [HL.out]; exact hlt)
          obtain ⟨ad, rfl, hb, c0, c1⟩ := tm_at (HG.out.below GB).row hx
          have HN := Lib.hid (HC.out.trans (riseT_at hx))
          have HLa := Lib.hid (lastT_at hx)
          have j0 : (0 : Int) ≤ (k : Int) := by omega
          have j1 : (k : Int) < (n : Int) := by omega
          have l1 : decide ((k : Int) < (n : Int)) = true := decide_eq_true j1
          have KB := Blk.new wr 44 #[.int .i64 a, .int .i64 b]
          have K1 := K0.alloc (.cells #[.int .i64 a, .int .i64 b] 44)
          have GB1 := GB.alloc GB.size (.cells #[.int .i64 a, .int .i64 b] 44)
          have y0 := KB.cell 0
          have y1 := KB.cell 1
          have x0 := K1.cell 0
          have x1 := K1.cell 1
          have HTM : Hid (tmB now (a, b) = (decide (0 ≤ a) && decide (a < 32) && decide (now < b) && decide (b ≤ 1125899906842624))) := Lib.hid rfl
          dsimp only at HN HLa
          clear hb
          by_cases g0 : 0 ≤ a
          case neg =>
            have q0 : decide (a < 0) = true := decide_eq_true (by omega)
            have HE : Hid (chkW now ts = false) := Lib.hid (by rw [HN.out, HTM.out, decide_eq_false g0]; simp)
            clear hx
            go_wp2_with fail
            go_quiet (fail)
            go_wp2
            go_ret
            exact ⟨retB HE.out.symm, below_drewN GB1 _⟩
          have q0 : decide (a < 0) = false := decide_eq_false (by omega)
          by_cases g1 : a < 32
          case neg =>
            have q1 : decide (31 < a) = true := decide_eq_true (by omega)
            have HE : Hid (chkW now ts = false) := Lib.hid (by rw [HN.out, HTM.out, decide_eq_true g0, decide_eq_false g1]; simp)
            clear hx
            go_wp2_with fail
            go_quiet (fail)
            go_wp2
            go_ret
            exact ⟨retB HE.out.symm, below_drewN GB1 _⟩
          have q1 : decide (31 < a) = false := decide_eq_false (by omega)
          by_cases g2 : now < b
          case neg =>
            have q2 : decide (b ≤ now) = true := decide_eq_true (by omega)
            have HE : Hid (chkW now ts = false) := Lib.hid (by rw [HN.out, HTM.out, decide_eq_true g0, decide_eq_true g1, decide_eq_false g2]; simp)
            clear hx
            go_wp2_with fail
            go_quiet (fail)
            go_wp2
            go_ret
            exact ⟨retB HE.out.symm, below_drewN GB1 _⟩
          have q2 : decide (b ≤ now) = false := decide_eq_false (by omega)
          by_cases g3 : b ≤ 1125899906842624
          case neg =>
            have q3 : decide (1125899906842624 < b) = true := decide_eq_true (by omega)
            have HE : Hid (chkW now ts = false) := Lib.hid (by rw [HN.out, HTM.out, decide_eq_true g0, decide_eq_true g1, decide_eq_true g2, decide_eq_false g3]; simp)
            clear hx
            go_wp2_with fail
            go_quiet (fail)
            go_wp2
            go_ret
            exact ⟨retB HE.out.symm, below_drewN GB1 _⟩
          have q3 : decide (1125899906842624 < b) = false := decide_eq_false (by omega)
          have HT2 : Hid (tmB now (a, b) = true) := Lib.hid (by rw [HTM.out, decide_eq_true g0, decide_eq_true g1, decide_eq_true g2, decide_eq_true g3]; rfl)
          have G0 := Lib.hid g0
          cases k with
          | zero =>
            have HE : Hid (chkW now ts = riseT now (lastT ts 1) (ts.drop 1)) := Lib.hid (by rw [HN.out, HT2.out, HLa.out, show lastT ts 0 = -1 from rfl, decide_eq_true (show (-1 : Int) < a by have := G0.out; omega)]; simp)
            have hn1 : 0 + 1 ≤ n := hlt
            have c0' : wr.cell? ad = some (.int .i64 a) := by have q := c0; rwa [show ad.add (0 * 2) = ad by simp [Addr.add]] at q
            have c1' : wr.cell? ⟨ad.block, ad.off + 1, none⟩ = some (.int .i64 b) := by have q := c1; rwa [show ad.add (0 * 2) = ad by simp [Addr.add]] at q
            clear g0 g1 g2 g3 hx c0 c1 HC HN hk hlt
            go_wp2_with fail
            go_quiet (fail)
            go_wp2
            go_roundw
            case rel => exact ⟨0 + 1, hn1, by go_num, HE, K1, below_drewN GB1 _⟩
            case measure => simp [intOf] <;> omega
          | succ j =>
            obtain ⟨⟨a', b'⟩, hy⟩ := elem_at (l := ts) (k := j) (by rw [HL.out]; omega)
            obtain ⟨ad', e', hb', d0, d1⟩ := tm_at (HG.out.below GB1).row hy
            injection e' with e'
            subst e'
            have hly := lastT_at hy
            dsimp only at hly
            have g5 : decide ((0 : Int) < ((j + 1 : Nat) : Int)) = true := decide_eq_true (by omega)
            have g6 : (((j + 1 : Nat) : Int) - 1) = (j : Int) := by omega
            have g7 : wrap64 (((j + 1 : Nat) : Int) - 1) = (j : Int) := by unfold wrap64; omega
            have g8 : (0 : Int) ≤ (j : Int) := by omega
            have g9 : (j : Int) < (n : Int) := by omega
            have hk1 : j + 1 + 1 ≤ n := hlt
            obtain ⟨kk, hkk⟩ : ∃ kk, j + 1 = kk := ⟨_, rfl⟩
            rw [hkk] at g5 g6 g7 c0 c1 j0 j1 l1 HN HLa hk1 hly ⊢
            have HJ := Lib.hid hkk
            have g5b : 0 < kk := by omega
            have g5c : (0 : Int) < (kk : Int) := by omega
            have g5d : decide (0 < kk) = true := decide_eq_true g5b
            clear hy hx hk hlt hkk g0 g1 g2 g3 HC hb'
            by_cases hxy : a' < a
            · have e3 : decide (a ≤ a') = false := decide_eq_false (by omega)
              have HE : Hid (chkW now ts = riseT now (lastT ts (kk + 1)) (ts.drop (kk + 1))) := Lib.hid (by rw [HN.out, HT2.out, HLa.out, hly, decide_eq_true hxy]; simp)
              clear hxy hly HN
              go_wp2_with fail
              go_quiet (fail)
              go_wp2
              go_roundw
              case rel => exact ⟨kk + 1, hk1, by go_num, HE, K1, below_drewN GB1 _⟩
              case measure => simp [intOf] <;> omega
            · have e3 : decide (a ≤ a') = true := decide_eq_true (by omega)
              have HE : Hid (chkW now ts = false) := Lib.hid (by rw [HN.out, HT2.out, hly, decide_eq_false hxy]; simp)
              clear hxy hly HN
              go_wp2_with fail
              go_quiet (fail)
              go_wp2
              go_ret
              exact ⟨retB HE.out.symm, below_drewN GB1 _⟩
        · obtain rfl : k = n := by omega
          have l1 : decide ((k : Int) < (k : Int)) = false := decide_eq_false (by omega)
          have HE : Hid (chkW now ts = true) := Lib.hid (by rw [HC.out, ← HL.out, List.drop_length]; rfl)
          go_wp2
          go_ret
          exact ⟨retB HE.out.symm, GB⟩

/-- when the first of a number is due, or 0 -/
def atD (id : Int) : List Tm → Int
  | [] => 0
  | t :: l => if t.1 = id then t.2 else atD id l
theorem atD_at {id : Int} {l : List Tm} {k : Nat} {x : Tm} (h : l[k]? = some x) : atD id (l.drop k) = if x.1 = id then x.2 else atD id (l.drop (k + 1)) := by
  have hk := (List.getElem?_eq_some_iff.1 h).1
  have e : l.drop k = x :: l.drop (k + 1) := by rw [List.drop_eq_getElem_cons hk, (List.getElem?_eq_some_iff.1 h).2]
  rw [e]
  rfl
set_option maxRecDepth 100000 in
set_option maxHeartbeats 4000000 in
theorem rat_any (now : Int) (A : Option Addr) (n c : Nat) (ts : List Tm) (id : Int) (w : World) (hG : WR w A n ts) : Calls Try.prog 15 #[.agg #[.int .i64 now, .slice A n c], .int .i64 id] w (Said (.int .i64 (atD id ts)) w) := by
  obtain ⟨K0, GB⟩ := box1 w 24 #[.int .i64 now, .slice A n c]
  have HG := Lib.hid (hG.below GB)
  have HL := Lib.hid hG.len
  have n9 : n ≤ 1000 := hG.small
  have HGB := Lib.hid GB
  have z1 := K0.cell 1
  generalize hX : w.alloc (.cells #[.int .i64 now, .slice A n c] 24) = X at *
  clear hG
  go_enter Try.func15, Try.ntmps15
  go_wp2_with fail
  go_loop [5] (fun i => ∃ (k : Nat), k ≤ n ∧ i = .int .i64 (k : Int) ∧ Hid (atD id ts = atD id (ts.drop k))) (fun i => n - (intOf i).toNat)
  case atStart => exact ⟨0, Nat.zero_le _, rfl, Lib.hid rfl⟩
  case round =>
    obtain ⟨k, hk, rfl, HC⟩ := hrel
    by_cases hlt : k < n
    · obtain ⟨⟨a, b⟩, hx⟩ := elem_at (l := ts) (k := k) (by rw [HL.out]; exact hlt)
      obtain ⟨ad, rfl, hb, c0, c1⟩ := tm_at HG.out.row hx
      have HN := Lib.hid (HC.out.trans (atD_at hx))
      have j0 : (0 : Int) ≤ (k : Int) := by omega
      have j1 : (k : Int) < (n : Int) := by omega
      have l1 : decide ((k : Int) < (n : Int)) = true := decide_eq_true j1
      dsimp only at HN
      clear hx hb
      by_cases he : a = id
      · have HE : Hid (atD id ts = b) := Lib.hid (by rw [HN.out, if_pos he])
        have e1 : (a == id) = true := by simpa using he
        clear he HC HN
        go_wp2
        go_ret
        exact ⟨retI HE.out.symm, HGB.out⟩
      · have HE : Hid (atD id ts = atD id (ts.drop (k + 1))) := Lib.hid (by rw [HN.out, if_neg he])
        have e1 : (a == id) = false := by simpa using he
        clear he HC HN
        go_wp2
        go_round
        case rel => exact ⟨k + 1, by omega, by go_num, HE⟩
        case measure => simp [intOf] <;> omega
    · obtain rfl : k = n := by omega
      have l1 : decide ((k : Int) < (k : Int)) = false := decide_eq_false (by omega)
      have HE : Hid (atD id ts = 0) := Lib.hid (by rw [HC.out, ← HL.out, List.drop_length]; rfl)
      go_wp2
      go_ret
      exact ⟨retI HE.out.symm, HGB.out⟩

end Go.Proofs.Ytbhcpkmofnfjgaa
