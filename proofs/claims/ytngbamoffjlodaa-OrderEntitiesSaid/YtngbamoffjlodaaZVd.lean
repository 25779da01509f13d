/-
  Several texts as one.
-/
import Derived.Test.YtngbamoffjlodaaZKo
import Derived.Deep.DeepCutAuto
/-
  The landed vtime: inBounds, isId, CheckRunner, Check, unfit. No statement is proved here.
-/
namespace Go.Proofs.Ytngbamoffjlodaa
open Go.RowKit

set_option maxRecDepth 100000 in
theorem box1 (w : World) (t : TypeId) (cs : Array Value) : Blk (w.alloc (.cells cs t)) w.heap.size t cs ∧ Below w.heap.size w (w.alloc (.cells cs t)) := ⟨Blk.new _ _ _, (Below.refl _ _).alloc (Nat.le_refl _) _⟩
def inB (a lo hi : Int) : Bool := decide (lo ≤ a) && decide (a ≤ hi)
set_option maxRecDepth 100000 in
theorem inB_yes {a lo hi : Int} (h1 : lo ≤ a) (h2 : a ≤ hi) : inB a lo hi = true := by unfold inB; simp [h1, h2]
set_option maxRecDepth 100000 in
theorem inB_no {a lo hi : Int} (h : a < lo ∨ hi < a) : inB a lo hi = false := by
  unfold inB
  rcases h with h | h
  · have : ¬ lo ≤ a := by omega
    simp [this]
  · have : ¬ a ≤ hi := by omega
    simp [this]

set_option maxRecDepth 100000 in
set_option maxHeartbeats 400000 in
theorem inint_any (a lo hi : Int) (w : World) : Calls Try.prog 95 #[.int .i64 a, .int .i64 lo, .int .i64 hi] w fun e w' => e = .returned (.bool (inB a lo hi)) ∧ w = w' := by
  by_cases h1 : lo ≤ a
  · by_cases h2 : a ≤ hi
    · have H := Lib.hid (inB_yes h1 h2)
      go_enter Try.func95, Try.ntmps95
      go_wp2
      go_ret
      exact ⟨retB H.out.symm, rfl⟩
    · have H := Lib.hid (inB_no (lo := lo) (a := a) (hi := hi) (.inr (by omega)))
      go_enter Try.func95, Try.ntmps95
      go_wp2
      go_ret
      exact ⟨retB H.out.symm, rfl⟩
  · have H := Lib.hid (inB_no (lo := lo) (a := a) (hi := hi) (.inl (by omega)))
    go_enter Try.func95, Try.ntmps95
    go_wp2
    go_ret
    exact ⟨retB H.out.symm, rfl⟩



set_option maxRecDepth 100000 in
set_option maxHeartbeats 400000 in
theorem isid_any (a : Int) (w : World) : Calls Try.prog 94 #[.int .i64 a] w fun e w' => e = .returned (.bool (idB a)) ∧ w = w' := by
  have HI := Lib.hid (fun (u : World) => inint_any a 1 16 u)
  go_enter Try.func94, Try.ntmps94
  go_wp2_with fail
  refine (HI.out _).mono ?_
  rintro e w1 ⟨rfl, rfl⟩
  go_wp2
  go_ret
  exact ⟨rfl, rfl⟩

def chkR (r : Rn) : Int := if rightR r = true then 0 else 2
set_option maxRecDepth 100000 in
theorem fcheck_any (h l x : Nat) (u : World) (hh : h < 2 ^ 64) (hl : l < 2 ^ 64) (hx : x < 2 ^ 64) : Calls Try.prog 25 #[.agg #[.int .u64 (h : Int), .int .u64 (l : Int), .int .u64 (x : Int)]] u (Said (.int .i64 (if rightN (h * 2 ^ 64 + l) x = true then 0 else 150)) u) := by
  have q := check_ok (h * 2 ^ 64 + l) x u (by omega) hx
  rw [fq_of hl] at q
  exact q

set_option maxRecDepth 100000 in
set_option maxHeartbeats 2000000 in
theorem checkr_any (a b : Int) (h l x : Nat) (w : World) (hu : UR (a, b, h, l, x)) : Calls Try.prog 68 #[.agg #[.int .i64 a, .int .i64 b, .int .u64 (h : Int), .int .u64 (l : Int), .int .u64 (x : Int)]] w (Said (.int .i64 (chkR (a, b, h, l, x))) w) := by
  obtain ⟨K0, GB⟩ := box1 w 59 #[.int .i64 a, .int .i64 b, .int .u64 (h : Int), .int .u64 (l : Int), .int .u64 (x : Int)]
  have HI := Lib.hid (fun (u : World) => isid_any a u)
  have HE := Lib.hid (fun (u : World) => inint_any b 1 8 u)
  have HF := Lib.hid (fun (u : World) => fcheck_any h l x u hu.1 hu.2.1 hu.2.2)
  obtain ⟨p, hp⟩ : ∃ p, rightN (h * 2 ^ 64 + l) x = p := ⟨_, rfl⟩
  rw [hp] at HF
  have HV : Hid (chkR (a, b, h, l, x) = if (idB a && (inB b 1 8 && p)) = true then 0 else 2) := Lib.hid (by
    unfold chkR rightR rightE inB
    rw [← hp]
    rfl)
  have z0 := K0.cell 0
  have z1 := K0.cell 1
  have z2 := K0.cell 2
  have z3 := K0.cell 3
  have z4 := K0.cell 4
  clear hp hu
  cases h1 : idB a with
  | false =>
    rw [h1] at HI HV
    clear h1
    go_enter Try.func68, Try.ntmps68
    go_wp2_with fail
    refine (HI.out _).mono ?_
    rintro e w1 ⟨rfl, rfl⟩
    go_wp2
    go_ret
    exact ⟨retI HV.out.symm, GB⟩
  | true =>
    rw [h1] at HI HV
    clear h1
    cases h2 : inB b 1 8 with
    | false =>
      rw [h2] at HE HV
      clear h2
      go_enter Try.func68, Try.ntmps68
      go_wp2_with fail
      refine (HI.out _).mono ?_
      rintro e w1 ⟨rfl, rfl⟩
      go_wp2_with fail
      refine (HE.out _).mono ?_
      rintro e w1 ⟨rfl, rfl⟩
      go_wp2
      go_ret
      exact ⟨retI HV.out.symm, GB⟩
    | true =>
      rw [h2] at HE HV
      clear h2
      cases p with
      | false =>
        rw [if_neg (by decide)] at HF
        go_enter Try.func68, Try.ntmps68
        go_wp2_with fail
        refine (HI.out _).mono ?_
        rintro e w1 ⟨rfl, rfl⟩
        go_wp2_with fail
        refine (HE.out _).mono ?_
        rintro e w1 ⟨rfl, rfl⟩
        go_wp2_with fail
        refine (HF.out _).mono ?_
        rintro e w1 ⟨rfl, h9⟩
        replace GB := GB.trans (h9.mono GB.size)
        clear h9 z0 z1 z2 z3 z4
        go_wp2
        go_ret
        exact ⟨retI HV.out.symm, GB⟩
      | true =>
        rw [if_pos rfl] at HF
        go_enter Try.func68, Try.ntmps68
        go_wp2_with fail
        refine (HI.out _).mono ?_
        rintro e w1 ⟨rfl, rfl⟩
        go_wp2_with fail
        refine (HE.out _).mono ?_
        rintro e w1 ⟨rfl, rfl⟩
        go_wp2_with fail
        refine (HF.out _).mono ?_
        rintro e w1 ⟨rfl, h9⟩
        replace GB := GB.trans (h9.mono GB.size)
        clear h9 z0 z1 z2 z3 z4
        go_wp2
        go_ret
        exact ⟨retI HV.out.symm, GB⟩

/-- a queue that lies somewhere, its cells within 64 bits -/
structure QR (w : World) (A : Option Addr) (n c : Nat) (qs : List Rn) : Prop where
  row : Reads w w.heap.size 5 A n (flat rv qs)
  nc : n ≤ c
  small : n ≤ 1000
  ur : UQ qs
set_option maxRecDepth 100000 in
theorem QR.len {w : World} {A : Option Addr} {n c : Nat} {qs : List Rn} (h : QR w A n c qs) : qs.length = n := rns_len h.row
set_option maxRecDepth 100000 in
theorem QR.below {w w' : World} {A : Option Addr} {n c : Nat} {qs : List Rn} (h : QR w A n c qs) (hb : Below w.heap.size w w') : QR w' A n c qs := ⟨(h.row.below hb).more hb.size, h.nc, h.small, h.ur⟩

def chkL : Int → List Rn → Bool
  | _, [] => true
  | last, r :: l => decide (last < r.1) && rightR r && chkL r.1 l
set_option maxRecDepth 100000 in
theorem chkL_eq : ∀ (last : Int) (l : List Rn), chkL last l = (riseF 16 last l && l.all rightR)
  | _, [] => rfl
  | last, r :: l => by
    unfold chkL riseF
    rw [chkL_eq r.1 l, List.all_cons]
    cases h : rightR r with
    | false => simp
    | true =>
      have := (rightR_iff.1 h).1
      rw [show decide (r.1 ≤ 16) = true from decide_eq_true this.2]
      cases decide (last < r.1) <;> cases riseF 16 r.1 l <;> simp
set_option maxRecDepth 100000 in
theorem rightQ_chk (l : List Rn) : rightQ l = chkL 0 l := (chkL_eq 0 l).symm
set_option maxRecDepth 100000 in
theorem chkL_at {last : Int} {l : List Rn} {k : Nat} {x : Rn} (h : l[k]? = some x) : chkL last (l.drop k) = (decide (last < x.1) && rightR x && chkL x.1 (l.drop (k + 1))) := by
  have hk := (List.getElem?_eq_some_iff.1 h).1
  have e : l.drop k = x :: l.drop (k + 1) := by rw [List.drop_eq_getElem_cons hk, (List.getElem?_eq_some_iff.1 h).2]
  rw [e]
  rfl

set_option maxRecDepth 100000 in
set_option maxHeartbeats 4000000 in
theorem qcheck_any (A : Option Addr) (n c : Nat) (qs : List Rn) (w : World) (hG : QR w A n c qs) : Calls Try.prog 42 #[.agg #[.slice A n c]] w (Said (.int .i64 (chkQ qs)) w) := by
  have HK := Lib.hid (box1 w 26 #[.slice A n c])
  have HG := Lib.hid hG
  have HL := Lib.hid hG.len
  have n9 : n ≤ 1000 := hG.small
  have k0 := HK.out.1.cell 0
  clear hG
  go_enter Try.func42, Try.ntmps42
  go_wp2_with fail
  clear k0
  go_loopw [3, 9] (fun s i wr => ∃ (k : Nat) (la : Int), k ≤ n ∧ s = .int .i64 la ∧ i = .int .i64 (k : Int) ∧ Hid (rightQ qs = chkL la (qs.drop k)) ∧ Below w.heap.size w wr) (fun _ i _ => n - (intOf i).toNat)
  case atStart => exact ⟨0, 0, Nat.zero_le _, rfl, rfl, Lib.hid (rightQ_chk qs), HK.out.2⟩
  case round =>
    clear HK
    obtain ⟨k, la, hk, rfl, rfl, HC, GB⟩ := hrel
    by_cases hlt : k < n
    · obtain ⟨⟨a, b, h, l, x⟩, hx⟩ := elem_at (l := qs) (k := k) (by rw [HL.out]; exact hlt)
      obtain ⟨ad, rfl, hb, c0, c1, c2, c3, c4⟩ := rn_at (HG.out.below GB).row hx
      have HX := Lib.hid hx
      have HR := Lib.hid (fun (u : World) => checkr_any a b h l x u (HG.out.ur _ (List.mem_of_getElem? hx)))
      have HN : Hid (rightQ qs = (decide (la < a) && rightR (a, b, h, l, x) && chkL a (qs.drop (k + 1)))) := Lib.hid (HC.out.trans (chkL_at hx))
      have j0 : (0 : Int) ≤ (k : Int) := by omega
      have j1 : (k : Int) < (n : Int) := by omega
      have KD := Blk.new wr 59 #[.int .i64 a, .int .i64 b, .int .u64 (h : Int), .int .u64 (l : Int), .int .u64 (x : Int)]
      have GB1 := GB.alloc GB.size (.cells #[.int .i64 a, .int .i64 b, .int .u64 (h : Int), .int .u64 (l : Int), .int .u64 (x : Int)] 59)
      clear hx GB HC
      by_cases hla : a ≤ la
      · have e1 : decide (a ≤ la) = true := decide_eq_true hla
        have HV : Hid (chkQ qs = 200) := Lib.hid (by unfold chkQ; rw [HN.out, show decide (la < a) = false from decide_eq_false (by omega)]; rfl)
        clear hla
        go_wp2
        go_ret
        exact ⟨retI HV.out.symm, GB1⟩
      · have e1 : decide (a ≤ la) = false := decide_eq_false hla
        have e2 : decide (la < a) = true := decide_eq_true (by omega)
        cases hr : rightR (a, b, h, l, x) with
        | false =>
          rw [show chkR (a, b, h, l, x) = 2 from if_neg (by rw [hr]; decide)] at HR
          have HV : Hid (chkQ qs = 200) := Lib.hid (by unfold chkQ; rw [HN.out, hr, Bool.and_false]; rfl)
          clear hla hr e2
          go_wp2_with fail
          refine (HR.out _).mono ?_
          rintro e w1 ⟨rfl, h9⟩
          have BF := GB1.trans (h9.mono GB1.size)
          clear h9 c0 c1 c2 c3 c4
          go_wp2
          go_ret
          exact ⟨retI HV.out.symm, BF⟩
        | true =>
          rw [show chkR (a, b, h, l, x) = 0 from if_pos hr] at HR
          have HC : Hid (rightQ qs = chkL a (qs.drop (k + 1))) := Lib.hid (by rw [HN.out, hr, e2]; rfl)
          clear hla hr e2 HN
          go_wp2_with fail
          refine (HR.out _).mono ?_
          rintro e w1 ⟨rfl, h9⟩
          have BF := GB1.trans (h9.mono GB1.size)
          have KF := KD.below h9 KD.lt
          have z0 := KF.cell 0
          clear h9 c0 c1 c2 c3 c4 GB1 KD
          go_wp2
          go_roundw
          case rel => exact ⟨k + 1, a, by omega, rfl, by go_num, HC, BF⟩
          case measure => simp [intOf] <;> omega
    · obtain rfl : k = n := by omega
      have HV : Hid (chkQ qs = 0) := Lib.hid (by unfold chkQ; rw [HC.out, ← HL.out, List.drop_length]; rfl)
      go_wp2
      go_ret
      exact ⟨retI HV.out.symm, GB⟩

end Go.Proofs.Ytngbamoffjlodaa
/-
  The library's Compare and BinarySearchFunc; the landed vtime: find, rise. No statement is proved here.
-/
namespace Go.Proofs.Ytngbamoffjlodaa
open Go.RowKit

def cmpY (a b : Int) : Int := if a < b then -1 else if b < a then 1 else 0

set_option maxRecDepth 100000 in
set_option maxHeartbeats 400000 in
theorem iisnan_any (a : Int) (w : World) : Calls Try.prog 113 #[.int .i64 a] w fun e w' => e = .returned (.bool false) ∧ w = w' := by
  have e0 : (a == a) = true := by simp
  go_enter Try.func113, Try.ntmps113
  go_wp2
  go_ret
  exact ⟨rfl, rfl⟩

set_option maxRecDepth 100000 in
set_option maxHeartbeats 1000000 in
theorem icompare_any (a b : Int) (w : World) : Calls Try.prog 93 #[.int .i64 a, .int .i64 b] w fun e w' => e = .returned (.int .i64 (cmpY a b)) ∧ w = w' := by
  have HN := Lib.hid (fun (x : Int) (u : World) => iisnan_any x u)
  by_cases h1 : a < b
  · have HV : Hid (cmpY a b = -1) := Lib.hid (if_pos h1)
    have e1 : decide (a < b) = true := decide_eq_true h1
    go_enter Try.func93, Try.ntmps93
    go_wp2_with fail
    refine (HN.out _ _).mono ?_
    rintro e w' ⟨rfl, rfl⟩
    go_wp2_with fail
    refine (HN.out _ _).mono ?_
    rintro e w' ⟨rfl, rfl⟩
    go_wp2
    go_ret
    exact ⟨retI HV.out.symm, rfl⟩
  · have e1 : decide (a < b) = false := decide_eq_false h1
    by_cases h2 : b < a
    · have HV : Hid (cmpY a b = 1) := Lib.hid (by unfold cmpY; rw [if_neg h1, if_pos h2])
      have e2 : decide (b < a) = true := decide_eq_true h2
      go_enter Try.func93, Try.ntmps93
      go_wp2_with fail
      refine (HN.out _ _).mono ?_
      rintro e w' ⟨rfl, rfl⟩
      go_wp2_with fail
      refine (HN.out _ _).mono ?_
      rintro e w' ⟨rfl, rfl⟩
      go_wp2
      go_ret
      exact ⟨retI HV.out.symm, rfl⟩
    · have HV : Hid (cmpY a b = 0) := Lib.hid (by unfold cmpY; rw [if_neg h1, if_neg h2])
      have e2 : decide (b < a) = false := decide_eq_false h2
      go_enter Try.func93, Try.ntmps93
      go_wp2_with fail
      refine (HN.out _ _).mono ?_
      rintro e w' ⟨rfl, rfl⟩
      go_wp2_with fail
      refine (HN.out _ _).mono ?_
      rintro e w' ⟨rfl, rfl⟩
      go_wp2
      go_ret
      exact ⟨retI HV.out.symm, rfl⟩





set_option maxRecDepth 100000 in
theorem riseI_at {last : Int} {l : List Int} {k : Nat} {x : Int} (h : l[k]? = some x) : riseI last (l.drop k) = (decide (last < x) && decide (x ≤ 16) && riseI x (l.drop (k + 1))) := by
  have hk := (List.getElem?_eq_some_iff.1 h).1
  have e : l.drop k = x :: l.drop (k + 1) := by rw [List.drop_eq_getElem_cons hk, (List.getElem?_eq_some_iff.1 h).2]
  rw [e]
  rfl
/-- what came last -/
def lastI (is : List Int) : Nat → Int
  | 0 => 0
  | k + 1 => is.getD k 0
set_option maxRecDepth 100000 in
theorem lastI_at {is : List Int} {k : Nat} {x : Int} (h : is[k]? = some x) : lastI is (k + 1) = x := by show is.getD k 0 = x; rw [List.getD_eq_getElem?_getD, h]; rfl
/-- numbers that lie somewhere -/
structure IR (w : World) (A : Option Addr) (n : Nat) (is : List Int) : Prop where
  row : Reads w w.heap.size 1 A n (vs is)
  small : n ≤ 1000
set_option maxRecDepth 100000 in
theorem IR.len {w : World} {A : Option Addr} {n : Nat} {is : List Int} (h : IR w A n is) : is.length = n := by
  have h1 := h.row.1
  rw [length_vs] at h1
  omega
set_option maxRecDepth 100000 in
theorem IR.below {w w' : World} {A : Option Addr} {n : Nat} {is : List Int} (h : IR w A n is) (hb : Below w.heap.size w w') : IR w' A n is := ⟨(h.row.below hb).more hb.size, h.small⟩
set_option maxRecDepth 100000 in
theorem IR.at_ {w : World} {A : Option Addr} {n : Nat} {is : List Int} (h : IR w A n is) {j : Nat} {x : Int} (hx : is[j]? = some x) : ∃ ad, A = some ad ∧ ad.block < w.heap.size ∧ w.cell? (ad.add j) = some (.int .i64 x) := by
  have := (List.getElem?_eq_some_iff.1 hx).1
  obtain ⟨ad, e, hb, hc⟩ := h.row.2 (by have := h.len; omega)
  exact ⟨ad, e, hb, hc j _ (by unfold vs; rw [List.getElem?_map, hx]; rfl)⟩


end Go.Proofs.Ytngbamoffjlodaa
/-
  The landed vtime: times, greatest, lifted, held, Top. No statement is proved here.
-/
namespace Go.Proofs.Ytngbamoffjlodaa
open Go.RowKit

set_option maxRecDepth 100000 in
theorem frac_info : (Try.prog.info? 45).map (fun i => (i.zero, i.size, i.bytes)) = some (some (.agg #[.int .u64 0, .int .u64 0, .int .u64 0]), 3, 24) := by kernel_rfl
set_option maxRecDepth 100000 in
theorem own_set {w : World} {base n size : Nat} {e : TypeId} {v : Value} {xs : List Value} (h : w.ownsRow base e size v n xs) {g : Nat} (hg : g < base) (i : Nat) (u : Value) : (w.setCell ⟨g, i, none⟩ u).ownsRow base e size v n xs := by
  refine h.kept (row := some g) ⟨rfl, rfl, rfl, by simp [World.setCell], fun k _ hne => Below.heap_setCell w _ u k (fun he => hne (by rw [he]))⟩ ?_
  cases ho : v.ownBlock with
  | none => exact .inl rfl
  | some k =>
    refine .inr (fun he => ?_)
    have := (h.lt k ho).1
    injection he with he
    omega
set_option maxRecDepth 100000 in
theorem own_down {w : World} {base base' n size : Nat} {e : TypeId} {v : Value} {xs : List Value} (h : w.ownsRow base e size v n xs) (hb : base' ≤ base) : w.ownsRow base' e size v n xs := by
  rcases h with ⟨h1, h2 | ⟨g, cap, cur, a, b, c⟩⟩
  · exact ⟨h1, .inl h2⟩
  · exact ⟨h1, .inr ⟨g, cap, cur, a, Nat.le_trans hb b, c⟩⟩
set_option maxRecDepth 100000 in
theorem own_below {w w' : World} {base n size : Nat} {e : TypeId} {v : Value} {xs : List Value} (h : w.ownsRow base e size v n xs) (hb : Below w.heap.size w w') : w'.ownsRow base e size v n xs := by
  rcases h with ⟨h1, h2 | ⟨g, cap, cur, a, b, c, r⟩⟩
  · exact ⟨h1, .inl h2⟩
  · exact ⟨h1, .inr ⟨g, cap, cur, a, b, (hb.block g (Array.getElem?_eq_some_iff.1 c).1).trans c, r⟩⟩
set_option maxRecDepth 100000 in
theorem own_off {w : World} {base n size g : Nat} {e : TypeId} {v : Value} {xs : List Value} (h : w.ownsRow base e size v n xs) (hne : ∀ k, v.ownBlock = some k → k ≠ g) (i : Nat) (u : Value) : (w.setCell ⟨g, i, none⟩ u).ownsRow base e size v n xs := by
  refine h.kept (row := some g) ⟨rfl, rfl, rfl, by simp [World.setCell], fun k _ hk => Below.heap_setCell w _ u k (fun he => hk (by rw [he]))⟩ ?_
  cases ho : v.ownBlock with
  | none => exact .inl rfl
  | some k => exact .inr (fun he => hne k ho (by injection he))
set_option maxRecDepth 100000 in
theorem reads_int1 (w : World) (t : TypeId) (x : Int) {g : Nat} (hg : g = w.heap.size) : Reads (w.alloc (.cells #[.int .i64 x] t)) (w.alloc (.cells #[.int .i64 x] t)).heap.size 1 (some ⟨g, 0, none⟩) 1 (vs [x]) := by
  subst hg
  refine ⟨rfl, fun _ => ⟨_, rfl, by simp, fun j u hu => ?_⟩⟩
  have hb := Blk.new w t #[.int .i64 x]
  match j, hu with
  | 0, hu => simp [vs] at hu; subst hu; exact hb.cell 0
  | j + 1, hu => simp [vs] at hu

set_option maxRecDepth 100000 in
theorem reads_frac1 (w : World) (h l x : Nat) {g : Nat} (hg : g = w.heap.size) : Reads (w.alloc (.cells #[.int .u64 (h : Int), .int .u64 (l : Int), .int .u64 (x : Int)] 45)) (w.alloc (.cells #[.int .u64 (h : Int), .int .u64 (l : Int), .int .u64 (x : Int)] 45)).heap.size 3 (some ⟨g, 0, none⟩) 1 (fvs [(h, l, x)]) := by
  subst hg
  refine ⟨rfl, fun _ => ⟨_, rfl, by simp, fun j u hj => ?_⟩⟩
  rw [Addr.add_lit, Nat.zero_add, (Blk.new w _ _).cell j]
  simpa [fvs, f3v] using hj


set_option maxRecDepth 100000 in
theorem topI_at {l : List (Nat × Nat × Nat)} (h0 : 0 < l.length) (ha : allB l = true) : ∃ p q x, l[topI l]? = some (p, q, x) := each_at (topK_top h0 (bF_pos ha)).1


end Go.Proofs.Ytngbamoffjlodaa
/-
  The landed vtime: unfound, Get. No statement is proved here.
-/
namespace Go.Proofs.Ytngbamoffjlodaa
open Go.RowKit

set_option maxRecDepth 100000 in
theorem put1 {w w1 : World} {g b : Nat} {t : TypeId} {p x : Value} (K : Blk w1 g t #[p]) (B : Below b w w1) (hg : b ≤ g) : Blk (w1.setCell ⟨g, 0, none⟩ x) g t #[x] ∧ Below b w (w1.setCell ⟨g, 0, none⟩ x) := by
  refine ⟨?_, B.setCell (p := ⟨g, 0, none⟩) hg x⟩
  have := K.set_ 0 x
  simpa using this
end Go.Proofs.Ytngbamoffjlodaa
