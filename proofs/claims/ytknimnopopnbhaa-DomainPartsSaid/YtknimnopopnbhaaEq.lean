/-
  The landed domain: unadded, Add. No statement is proved here.
-/
import Derived.Test.YtknimnopopnbhaaEp
namespace Go.Proofs.Ytknimnopopnbhaa
open Go.RowKit

theorem results_row3 {P : Program} {fn : Func} {p q r : Tmp} {ty : TypeId} (h : fn.results = #[.cell p ty, .tmp q, .tmp r]) (tmps : Array Value) (w : World) (g : Nat) (t : TypeId) (cs : Array Value) (d : TypeDesc)
    (hp : tmps.getD p undef = .pointer (some ⟨g, 0, none⟩)) (hg : w.heap[g]? = some (.cells cs t (0, 0)))
    (hu : P.underlying ty = some d) (hd : (match d with | .struct _ | .array _ _ => true | _ => false) = true) (hi : (P.info? ty).map (·.size) = some cs.size) :
    (results fn tmps).run P w = .ok (.tuple #[.agg cs, tmps.getD q undef, tmps.getD r undef]) w := by
  have hp' : tmps[p]?.getD undef = .pointer (some ⟨g, 0, none⟩) := by simpa using hp
  simp [results, h, hp', asAddr, run_loadVar_row w g t ty cs (0, 0) d hg hu hd hi]

set_option maxRecDepth 100000 in
set_option maxHeartbeats 8000000 in
theorem unadded_any (A : Option Addr) (n c : Nat) (ds : List Dom) (B : Option Addr) (m d : Nat) (us : List Vc) (dom : Int) (h s : Nat) (w : World) (hG : GR w A n c ds B m d us) (hh : h < 4294967296) (hs : s < 4294967296) :
    Calls Try.prog 53 #[.agg #[.slice A n c, .slice B m d], .int .i64 dom, .agg #[.int .u32 (h : Int), .int .u32 (s : Int)]] w (Said (.int .i64 (unE ds us dom h s)) w) := by
  have HAm := Lib.hid (fun (u : World) (h : Below w.heap.size w u) => damong_any A n c ds B m d us dom u (hG.below h))
  have HMk := Lib.hid (fun (u : World) => mcheck_any h s u hh hs)
  have HCo := Lib.hid (fun (u : World) (h : Below w.heap.size w u) => count_any A n c ds B m d us dom u (hG.below h))
  have hlen := hG.len.2
  obtain ⟨p, hp⟩ : ∃ p, low ds dom = p := ⟨_, rfl⟩
  rw [hp] at HAm
  obtain ⟨E2, hE2⟩ : ∃ E2, maskE h s = E2 := ⟨_, rfl⟩
  rw [hE2] at HMk
  obtain ⟨Q, hQ⟩ : ∃ Q, (ofL us dom).length = Q := ⟨_, rfl⟩
  rw [hQ] at HCo
  obtain ⟨K0, K1, GB⟩ := blks2 w 25 48 #[.slice A n c, .slice B m d] #[.int .u32 (h : Int), .int .u32 (s : Int)]
  have k0 := K0.cell 0
  have k1 := K0.cell 1
  clear hG hh hs hp
  cases hr : rightG ds us with
  | false =>
    rw [hr, am_ff] at HAm
    have HV : Hid (unE ds us dom h s = 190) := Lib.hid (by unfold unE; rw [hr]; rfl)
    clear hr hE2 hQ hlen
    go_enter Try.func53, Try.ntmps53
    go_wp2_with fail
    refine (HAm.out _ GB).mono ?_
    rintro e w1 ⟨rfl, h9⟩
    replace K0 := K0.below h9 K0.lt
    replace K1 := K1.below h9 K1.lt
    replace GB := GB.trans (h9.mono GB.size)
    have m0 := K1.cell 0
    have m1 := K1.cell 1
    clear h9 k0 k1
    go_wp2_with fail
    refine (HMk.out _).mono ?_
    rintro e w2 ⟨rfl, h9⟩
    replace K0 := K0.below h9 K0.lt
    replace GB := GB.trans (h9.mono GB.size)
    have HOr := Lib.hid (or2_any 190 E2 w2)
    rw [show (if (190 : Int) = 0 then E2 else 190) = 190 from if_neg (by decide)] at HOr
    clear h9 m0 m1 K1
    go_wp2_with fail
    refine HOr.out.mono ?_
    rintro e w3 ⟨rfl, rfl⟩
    replace K0 := K0.alloc (.cells #[.int .i64 190, .int .i64 E2] 31)
    replace GB := GB.alloc GB.size (.cells #[.int .i64 190, .int .i64 E2] 31)
    clear HOr
    go_wp2
    go_ret
    exact ⟨retI HV.out.symm, GB⟩
  | true =>
    cases hk : (kf ds dom).isSome with
    | false =>
      rw [hr, hk, am_tf] at HAm
      have HV : Hid (unE ds us dom h s = 4) := Lib.hid (by unfold unE; rw [if_pos hr, hk]; rfl)
      clear hk hr hE2 hQ hlen
      go_enter Try.func53, Try.ntmps53
      go_wp2_with fail
      refine (HAm.out _ GB).mono ?_
      rintro e w1 ⟨rfl, h9⟩
      replace K0 := K0.below h9 K0.lt
      replace K1 := K1.below h9 K1.lt
      replace GB := GB.trans (h9.mono GB.size)
      have m0 := K1.cell 0
      have m1 := K1.cell 1
      clear h9 k0 k1
      go_wp2_with fail
      refine (HMk.out _).mono ?_
      rintro e w2 ⟨rfl, h9⟩
      replace K0 := K0.below h9 K0.lt
      replace GB := GB.trans (h9.mono GB.size)
      have HOr := Lib.hid (or2_any 4 E2 w2)
      rw [show (if (4 : Int) = 0 then E2 else 4) = 4 from if_neg (by decide)] at HOr
      clear h9 m0 m1 K1
      go_wp2_with fail
      refine HOr.out.mono ?_
      rintro e w3 ⟨rfl, rfl⟩
      replace K0 := K0.alloc (.cells #[.int .i64 4, .int .i64 E2] 31)
      replace GB := GB.alloc GB.size (.cells #[.int .i64 4, .int .i64 E2] 31)
      clear HOr
      go_wp2
      go_ret
      exact ⟨retI HV.out.symm, GB⟩
    | true =>
      rw [hr, hk, am_tt] at HAm
      cases hm : rightK h s with
      | false =>
        have HE2 : Hid (E2 = 170) := Lib.hid (by rw [← hE2]; exact if_neg (by rw [hm]; simp))
        have HV : Hid (unE ds us dom h s = 170) := Lib.hid (by unfold unE; rw [if_pos hr, if_pos hk, hm]; rfl)
        clear hm hk hr hE2 hQ hlen
        go_enter Try.func53, Try.ntmps53
        go_wp2_with fail
        refine (HAm.out _ GB).mono ?_
        rintro e w1 ⟨rfl, h9⟩
        replace K0 := K0.below h9 K0.lt
        replace K1 := K1.below h9 K1.lt
        replace GB := GB.trans (h9.mono GB.size)
        have m0 := K1.cell 0
        have m1 := K1.cell 1
        clear h9 k0 k1
        go_wp2_with fail
        refine (HMk.out _).mono ?_
        rintro e w2 ⟨rfl, h9⟩
        replace K0 := K0.below h9 K0.lt
        replace GB := GB.trans (h9.mono GB.size)
        have HOr := Lib.hid (or2_any 0 E2 w2)
        rw [show (if (0 : Int) = 0 then E2 else 0) = 170 by rw [if_pos rfl, HE2.out]] at HOr
        clear h9 m0 m1 K1
        go_wp2_with fail
        refine HOr.out.mono ?_
        rintro e w3 ⟨rfl, rfl⟩
        replace K0 := K0.alloc (.cells #[.int .i64 0, .int .i64 E2] 31)
        replace GB := GB.alloc GB.size (.cells #[.int .i64 0, .int .i64 E2] 31)
        clear HOr
        go_wp2
        go_ret
        exact ⟨retI HV.out.symm, GB⟩
      | true =>
        have HE2 : Hid (E2 = 0) := Lib.hid (by rw [← hE2]; exact if_pos hm)
        by_cases h16 : m = 16
        · have HV : Hid (unE ds us dom h s = 6) := Lib.hid (by unfold unE; rw [if_pos hr, if_pos hk, if_pos hm, if_pos (.inl (by omega))])
          have e1 : ((m : Int) == 16) = true := by simp; omega
          clear h16 hm hk hr hE2 hQ hlen
          go_enter Try.func53, Try.ntmps53
          go_wp2_with fail
          refine (HAm.out _ GB).mono ?_
          rintro e w1 ⟨rfl, h9⟩
          replace K0 := K0.below h9 K0.lt
          replace K1 := K1.below h9 K1.lt
          replace GB := GB.trans (h9.mono GB.size)
          have m0 := K1.cell 0
          have m1 := K1.cell 1
          clear h9 k0 k1
          go_wp2_with fail
          refine (HMk.out _).mono ?_
          rintro e w2 ⟨rfl, h9⟩
          replace K0 := K0.below h9 K0.lt
          replace GB := GB.trans (h9.mono GB.size)
          have HOr := Lib.hid (or2_any 0 E2 w2)
          rw [show (if (0 : Int) = 0 then E2 else 0) = 0 by rw [if_pos rfl, HE2.out]] at HOr
          clear h9 m0 m1 K1
          go_wp2_with fail
          refine HOr.out.mono ?_
          rintro e w3 ⟨rfl, rfl⟩
          replace K0 := K0.alloc (.cells #[.int .i64 0, .int .i64 E2] 31)
          replace GB := GB.alloc GB.size (.cells #[.int .i64 0, .int .i64 E2] 31)
          clear HOr
          have c1 := K0.cell 1
          go_wp2
          go_ret
          exact ⟨retI HV.out.symm, GB⟩
        · have e1 : ((m : Int) == 16) = false := by simp; omega
          by_cases h8 : Q = 8
          · have HV : Hid (unE ds us dom h s = 6) := Lib.hid (by unfold unE; rw [if_pos hr, if_pos hk, if_pos hm, if_pos (.inr (by omega))])
            have e2 : ((Q : Int) == 8) = true := by simp; omega
            clear h8 h16 hm hk hr hE2 hQ hlen
            go_enter Try.func53, Try.ntmps53
            go_wp2_with fail
            refine (HAm.out _ GB).mono ?_
            rintro e w1 ⟨rfl, h9⟩
            replace K0 := K0.below h9 K0.lt
            replace K1 := K1.below h9 K1.lt
            replace GB := GB.trans (h9.mono GB.size)
            have m0 := K1.cell 0
            have m1 := K1.cell 1
            clear h9 k0 k1
            go_wp2_with fail
            refine (HMk.out _).mono ?_
            rintro e w2 ⟨rfl, h9⟩
            replace K0 := K0.below h9 K0.lt
            replace GB := GB.trans (h9.mono GB.size)
            have HOr := Lib.hid (or2_any 0 E2 w2)
            rw [show (if (0 : Int) = 0 then E2 else 0) = 0 by rw [if_pos rfl, HE2.out]] at HOr
            clear h9 m0 m1 K1
            go_wp2_with fail
            refine HOr.out.mono ?_
            rintro e w3 ⟨rfl, rfl⟩
            replace K0 := K0.alloc (.cells #[.int .i64 0, .int .i64 E2] 31)
            replace GB := GB.alloc GB.size (.cells #[.int .i64 0, .int .i64 E2] 31)
            clear HOr
            have c0 := K0.cell 0
            have c1 := K0.cell 1
            go_wp2_with fail
            refine (HCo.out _ GB).mono ?_
            rintro e w4 ⟨rfl, h9⟩
            replace GB := GB.trans (h9.mono GB.size)
            clear h9 c0 c1
            go_wp2
            go_ret
            exact ⟨retI HV.out.symm, GB⟩
          · have HV : Hid (unE ds us dom h s = 0) := Lib.hid (by unfold unE; rw [if_pos hr, if_pos hk, if_pos hm, if_neg (by omega)])
            have e2 : ((Q : Int) == 8) = false := by simp; omega
            clear h8 h16 hm hk hr hE2 hQ hlen
            go_enter Try.func53, Try.ntmps53
            go_wp2_with fail
            refine (HAm.out _ GB).mono ?_
            rintro e w1 ⟨rfl, h9⟩
            replace K0 := K0.below h9 K0.lt
            replace K1 := K1.below h9 K1.lt
            replace GB := GB.trans (h9.mono GB.size)
            have m0 := K1.cell 0
            have m1 := K1.cell 1
            clear h9 k0 k1
            go_wp2_with fail
            refine (HMk.out _).mono ?_
            rintro e w2 ⟨rfl, h9⟩
            replace K0 := K0.below h9 K0.lt
            replace GB := GB.trans (h9.mono GB.size)
            have HOr := Lib.hid (or2_any 0 E2 w2)
            rw [show (if (0 : Int) = 0 then E2 else 0) = 0 by rw [if_pos rfl, HE2.out]] at HOr
            clear h9 m0 m1 K1
            go_wp2_with fail
            refine HOr.out.mono ?_
            rintro e w3 ⟨rfl, rfl⟩
            replace K0 := K0.alloc (.cells #[.int .i64 0, .int .i64 E2] 31)
            replace GB := GB.alloc GB.size (.cells #[.int .i64 0, .int .i64 E2] 31)
            clear HOr
            have c0 := K0.cell 0
            have c1 := K0.cell 1
            go_wp2_with fail
            refine (HCo.out _ GB).mono ?_
            rintro e w4 ⟨rfl, h9⟩
            replace GB := GB.trans (h9.mono GB.size)
            clear h9 c0 c1
            go_wp2
            go_ret
            exact ⟨retI HV.out.symm, GB⟩

/-- a call answers guests in memory of its own, a number, and an error -/
def GivesA (r : List Dom × List Vc × Int × Int) (w : World) (e : Ending) (w' : World) : Prop :=
  ∃ A n c B m d, e = .returned (.tuple #[.agg #[.slice A n c, .slice B m d], .int .i64 r.2.2.1, .int .i64 r.2.2.2]) ∧ r.1.length = n ∧ r.2.1.length = m ∧ w'.ownsRow w.heap.size 27 4 (.slice A n c) n (flat dv r.1) ∧
    w'.ownsRow w.heap.size 50 4 (.slice B m d) m (flat cv r.2.1) ∧ Below w.heap.size w w'
theorem GivesA.none_ {w w' : World} {E : Int} (hb : Below w.heap.size w w') : GivesA ([], [], 0, E) w (.returned (.tuple #[.agg #[.slice none 0 0, .slice none 0 0], .int .i64 0, .int .i64 E])) w' :=
  ⟨none, 0, 0, none, 0, 0, rfl, rfl, rfl, World.ownsRow_nil _ _ _ _, World.ownsRow_nil _ _ _ _, hb⟩
def addQ (ds : List Dom) (us : List Vc) (dom : Int) (h s : Nat) : List Dom × List Vc × Int × Int := if unE ds us dom h s = 0 then (ds, insK us (((freeK us 16 : Nat) : Int), dom, h, s), ((freeK us 16 : Nat) : Int), 0) else ([], [], 0, unE ds us dom h s)
theorem un_right {ds : List Dom} {us : List Vc} {dom : Int} {h s : Nat} (h0 : unE ds us dom h s = 0) : RightP ds us ∧ (kf ds dom).isSome = true ∧ rightK h s = true ∧ us.length < 16 ∧ (ofL us dom).length < 8 := by
  unfold unE at h0
  cases hr : rightG ds us with
  | false => rw [hr] at h0; simp at h0
  | true =>
    cases hk : (kf ds dom).isSome with
    | false => rw [if_pos hr, hk] at h0; simp at h0
    | true =>
      cases hm : rightK h s with
      | false => rw [if_pos hr, if_pos hk, hm] at h0; simp at h0
      | true =>
        rw [if_pos hr, if_pos hk, if_pos hm] at h0
        have hP := rightG_iff.1 hr
        obtain ⟨x, hx⟩ := kf_is hk
        have h2 := kf_some hx
        have h3 : (ofL us dom).length ≤ 8 := h2.2 ▸ hP.cd x h2.1
        have h4 := hP.vn
        split at h0
        · omega
        · exact ⟨hP, rfl, rfl, by omega, by omega⟩

set_option maxRecDepth 100000 in
set_option maxHeartbeats 8000000 in
theorem gadd_any (A : Option Addr) (n c : Nat) (ds : List Dom) (B : Option Addr) (m d : Nat) (us : List Vc) (dom : Int) (h s : Nat) (w : World) (hG : GR w A n c ds B m d us) (hh : h < 4294967296) (hs : s < 4294967296) :
    Calls Try.prog 22 #[.agg #[.slice A n c, .slice B m d], .int .i64 dom, .agg #[.int .u32 (h : Int), .int .u32 (s : Int)]] w (GivesA (addQ ds us dom h s) w) := by
  have HUn := Lib.hid (fun (u : World) (hb : Below w.heap.size w u) => unadded_any A n c ds B m d us dom h s u (hG.below hb) hh hs)
  have HG := Lib.hid hG
  obtain ⟨K0, K1, K2, K3, GB⟩ := blks4 w 25 3 48 25 #[.slice A n c, .slice B m d] #[.int .i64 dom] #[.int .u32 (h : Int), .int .u32 (s : Int)] #[.slice none 0 0, .slice none 0 0]
  have k0 := K0.cell 0
  have k1 := K0.cell 1
  have k2 := K1.cell 0
  have k3 := K2.cell 0
  have k4 := K2.cell 1
  clear hG hh hs
  by_cases hE : unE ds us dom h s = 0
  · rw [hE] at HUn
    have hP := un_right hE
    have hR := hP.1.rv
    have hl := HG.out.len.2
    have hm9 := HG.out.m9
    have hm16 : m < 16 := by have := hP.2.2.2.1; omega
    have hov : ∀ y ∈ us, 1 ≤ y.1 := fun y hy => (hP.1.ov y hy).1
    have HSe : Hid (∀ (u : World), Below w.heap.size w u → Blk u w.heap.size 25 #[.slice A n c, .slice B m d] → Calls Try.prog 54 #[.int .i64 (m : Int), .func (.func 55) #[] #[.pointer (some ⟨w.heap.size, 0, none⟩)]] u fun e w' => ∃ g : Nat, e = .returned (.int .i64 (g : Int)) ∧ IsGap us g ∧ Below u.heap.size u w') := Lib.hid (fun u hb hKu => search_any m us w.heap.size u hR hov hl hm9 (fun v k x hv hx => by
      obtain ⟨x1, x2, x3, x4⟩ := x
      obtain ⟨ad, rfl, _, e0, _, _, _⟩ := vc_at (HG.out.vcs.below (hb.trans (hv.mono hb.size))) hx
      exact gapclo_any w.heap.size ad m d k x1 v ((hKu.below hv hKu.lt).cell 1) (by have := (List.getElem?_eq_some_iff.1 hx).1; omega) hm9 e0))
    have HDo : Hid (∀ (g gp gi : Nat) (u : World), IsGap us g → Blk u gp 3 #[.int .i64 (g : Int)] → Blk u gi 3 #[.int .i64 ((g : Int) + 1)] → Blk u (w.heap.size + 1) 3 #[.int .i64 dom] → Blk u (w.heap.size + 1 + 1) 48 #[.int .u32 (h : Int), .int .u32 (s : Int)] →
        DoOkAdd (.pointer (some ⟨gp, 0, none⟩)) (.pointer (some ⟨gi, 0, none⟩)) (.pointer (some ⟨w.heap.size + 1, 0, none⟩)) (.pointer (some ⟨w.heap.size + 1 + 1, 0, none⟩)) ds us ds (insK us ((g : Int) + 1, dom, h, s)) u) := Lib.hid (by
      intro g gp gi u hgap Kp Ki Kd Km b A' n' c' B' m' d' v hb1 hb2 hB hg
      have hp2 := Kp.lt
      have hi2 := Ki.lt
      have hd2 := Kd.lt
      have hm2 := Km.lt
      have hgl := hgap.1
      rw [show insK us ((g : Int) + 1, dom, h, s) = us.take g ++ ((g : Int) + 1, dom, h, s) :: us.drop g by unfold insK; rw [gap_place hR hgap]]
      exact adddo_any b A' n' c' ds B' m' d' us gp gi (w.heap.size + 1) (w.heap.size + 1 + 1) g ((g : Int) + 1) dom h s v hg hb2 (by have := own_vlen hg.vcs; omega) (by have := own_vlen hg.vcs; omega) (by omega) ((Kp.below hB hp2).cell 0) (by omega) ((Ki.below hB hi2).cell 0) (by omega) ((Kd.below hB hd2).cell 0) (by omega) ((Km.below hB hm2).cell 0) ((Km.below hB hm2).cell 1))
    have HVg : Hid (∀ g : Nat, IsGap us g → addQ ds us dom h s = (ds, insK us ((g : Int) + 1, dom, h, s), (g : Int) + 1, 0)) := Lib.hid (fun g hgap => by
      unfold addQ
      rw [if_pos hE, free_gap hR hgap (by omega), show ((g + 1 : Nat) : Int) = (g : Int) + 1 by omega])
    clear hP hR hl hov hE
    go_enter Try.func22, Try.ntmps22
    go_wp2_with fail
    refine (HUn.out _ GB).mono ?_
    rintro e w1 ⟨rfl, h9⟩
    replace K0 := K0.below h9 K0.lt
    replace K1 := K1.below h9 K1.lt
    replace K2 := K2.below h9 K2.lt
    replace K3 := K3.below h9 K3.lt
    replace GB := GB.trans (h9.mono GB.size)
    clear h9 k0 k1 k2 k3 k4
    have k1 := K0.cell 1
    go_wp2_with fail
    refine (HSe.out _ GB K0).mono ?_
    rintro e w2 ⟨g, rfl, hgap, h9⟩
    have hgl := hgap.1
    have hg16 : g < 17 := by have := HG.out.len.2; omega
    replace HDo := Lib.hid (fun (gp gi : Nat) (u : World) => HDo.out g gp gi u hgap)
    have HV := Lib.hid (HVg.out g hgap)
    have hlt3 := K3.lt
    have hsz := h9.size
    have KP := Blk.new w2 3 #[.int .i64 (g : Int)]
    replace K0 := (K0.below h9 K0.lt).alloc (.cells #[.int .i64 (g : Int)] 3)
    replace K1 := (K1.below h9 K1.lt).alloc (.cells #[.int .i64 (g : Int)] 3)
    replace K2 := (K2.below h9 K2.lt).alloc (.cells #[.int .i64 (g : Int)] 3)
    replace K3 := (K3.below h9 K3.lt).alloc (.cells #[.int .i64 (g : Int)] 3)
    replace GB := (GB.trans (h9.mono GB.size)).alloc (Nat.le_trans GB.size h9.size) (.cells #[.int .i64 (g : Int)] 3)
    have p0 := KP.cell 0
    have KI := Blk.new (w2.alloc (.cells #[.int .i64 (g : Int)] 3)) 3 #[.int .i64 ((g : Int) + 1)]
    replace KP := KP.alloc (.cells #[.int .i64 ((g : Int) + 1)] 3)
    replace K0 := K0.alloc (.cells #[.int .i64 ((g : Int) + 1)] 3)
    replace K1 := K1.alloc (.cells #[.int .i64 ((g : Int) + 1)] 3)
    replace K2 := K2.alloc (.cells #[.int .i64 ((g : Int) + 1)] 3)
    replace K3 := K3.alloc (.cells #[.int .i64 ((g : Int) + 1)] 3)
    replace GB := GB.alloc GB.size (.cells #[.int .i64 ((g : Int) + 1)] 3)
    have hs9 : w.heap.size + 1 + 1 + 1 + 1 ≤ ((w2.alloc (.cells #[.int .i64 (g : Int)] 3)).alloc (.cells #[.int .i64 ((g : Int) + 1)] 3)).heap.size := by simp; omega
    have hgi : w.heap.size + 1 + 1 + 1 < w2.heap.size + 1 := by omega
    have HCh := Lib.hid (fun (gp gi : Nat) (u : World) (h2 : Below w.heap.size w u) (hd : DoOkAdd (.pointer (some ⟨gp, 0, none⟩)) (.pointer (some ⟨gi, 0, none⟩)) (.pointer (some ⟨w.heap.size + 1, 0, none⟩)) (.pointer (some ⟨w.heap.size + 1 + 1, 0, none⟩)) ds us ds (insK us ((g : Int) + 1, dom, h, s)) u) => changedAdd_any A n c ds B m d us ds (insK us ((g : Int) + 1, dom, h, s)) _ _ _ _ u (HG.out.below h2) hd)
    clear h9 k1 hgap hgl HVg HSe HUn HG hm9 hm16 hlt3 hsz
    go_upto_region 6 with fail
    rw [show (w2.alloc (.cells #[.int .i64 (g : Int)] 3)).heap.size = w2.heap.size + 1 by simp] at KI
    generalize (w2.alloc (.cells #[.int .i64 (g : Int)] 3)).alloc (.cells #[.int .i64 ((g : Int) + 1)] 3) = W at K0 K1 K2 K3 KP KI GB hs9 ⊢
    generalize w2.heap.size + 1 = gi at KI hgi ⊢
    generalize w2.heap.size = gp at KP ⊢
    clear p0 hg16
    replace K0 : Blk W.drew _ _ _ := K0
    replace K1 : Blk W.drew _ _ _ := K1
    replace K2 : Blk W.drew _ _ _ := K2
    replace K3 : Blk W.drew _ _ _ := K3
    replace KP : Blk W.drew _ _ _ := KP
    replace KI : Blk W.drew _ _ _ := KI
    replace GB := GB.drew
    replace hs9 : w.heap.size + 1 + 1 + 1 + 1 ≤ W.drew.heap.size := hs9
    refine wp_region_held_drew (S := fun u => Blk u w.heap.size 25 #[.slice A n c, .slice B m d] ∧ Blk u gi 3 #[.int .i64 ((g : Int) + 1)] ∧ Below w.heap.size w u) (by kernel_rfl) ⟨K0, KI, GB⟩ (fun hS => ?_)
    generalize W.drew = V at K0 K1 K2 K3 KP KI GB hs9 hS ⊢
    refine wpAnyH_take (i := 0) (v := .agg #[.slice A n c, .slice B m d]) rfl (by kernel_rfl) (by kernel_rfl) (by kernel_rfl) (fun _ _ _ h => h) (Or.inl ⟨by kernel_rfl, fun u hSw => (by have q0 := hSw.1.cell 0; have q1 := hSw.1.cell 1; go_simp)⟩) hS ?_
    change wpAnyH _ _ _ _ _ _ _ (Act.put _ (some 27) _) _
    simp only [Act.put]
    refine wpAnyH_take (i := 1) (v := .func (.func 56) #[] #[.pointer (some ⟨gp, 0, none⟩), .pointer (some ⟨gi, 0, none⟩), .pointer (some ⟨w.heap.size + 1, 0, none⟩), .pointer (some ⟨w.heap.size + 1 + 1, 0, none⟩)]) rfl (by kernel_rfl) (by kernel_rfl) (by kernel_rfl) (fun _ _ _ h => h) (Or.inl ⟨by kernel_rfl, fun u hSw => (by go_simp)⟩) hS ?_
    change wpAnyH _ _ _ _ _ _ _ (Act.put _ (some 28) _) _
    simp only [Act.put]
    refine wpAnyH_take (i := 3) (v := .int .i64 ((g : Int) + 1)) rfl (by kernel_rfl) (by kernel_rfl) (by kernel_rfl) (fun _ _ _ h => h) (Or.inl ⟨by kernel_rfl, fun u hSw => (by have q0 := hSw.2.1.cell 0; go_simp)⟩) hS ?_
    change wpAnyH _ _ _ _ _ _ _ (Act.put _ (some 30) _) _
    simp only [Act.put]
    refine wpAnyH_ready (rs := [2]) (by kernel_rfl) (by simp) ?_
    refine AllReadyH.cons rfl (fun K hK => ?_) AllReadyH.nil
    go_simp
    refine (HCh.out _ _ _ GB (HDo.out _ _ _ KP KI K1 K2)).mono ?_
    rintro e1 w1 ⟨A3, n3, c3', B3, m3, d3, rfl, hl1, hl2, oD, oV, h9⟩
    replace K3 := K3.below h9 K3.lt
    replace K0 := K0.below h9 K0.lt
    replace KI := KI.below h9 KI.lt
    replace oD := own_down oD hs9
    replace oV := own_down oV hs9
    replace GB := GB.trans (h9.mono GB.size)
    clear h9
    refine hK.out _ _ ⟨K0, KI, GB⟩ (fun hS => ?_)
    clear hK K
    refine wpAnyH_ready (rs := [4]) (by kernel_rfl) (by simp) ?_
    refine AllReadyH.cons rfl (fun K hK => ?_) AllReadyH.nil
    have z0 := K3.cell 0
    have z1 := K3.cell 1
    have y0 := K3.frozen 0
    have y1 := K3.frozen 1
    have HP := put2 (x := .slice A3 n3 c3') (y := .slice B3 m3 d3) K3 GB (by omega)
    have oD' := own_set (own_set oD (g := w.heap.size + 1 + 1 + 1) (by omega) 0 (.slice A3 n3 c3')) (g := w.heap.size + 1 + 1 + 1) (by omega) 1 (.slice B3 m3 d3)
    have oV' := own_set (own_set oV (g := w.heap.size + 1 + 1 + 1) (by omega) 0 (.slice A3 n3 c3')) (g := w.heap.size + 1 + 1 + 1) (by omega) 1 (.slice B3 m3 d3)
    have K0' := (K0.far (p := ⟨w.heap.size + 1 + 1 + 1, 0, none⟩) (by simp <;> omega) (.slice A3 n3 c3')).far (p := ⟨w.heap.size + 1 + 1 + 1, 1, none⟩) (by simp <;> omega) (.slice B3 m3 d3)
    have KI' := (KI.far (p := ⟨w.heap.size + 1 + 1 + 1, 0, none⟩) (by simp <;> omega) (.slice A3 n3 c3')).far (p := ⟨w.heap.size + 1 + 1 + 1, 1, none⟩) (by simp <;> omega) (.slice B3 m3 d3)
    go_simp
    refine hK.out _ _ ⟨K0', KI', HP.2⟩ (fun hS => ?_)
    clear hK K z0 z1 y0 y1 K0 KI K3 GB oD oV
    refine wpAnyH_take (i := 5) (v := .int .i64 ((g : Int) + 1)) rfl (by kernel_rfl) (by kernel_rfl) (by kernel_rfl) (fun _ _ _ h => h) (Or.inl ⟨by kernel_rfl, fun u hSw => (by go_simp)⟩) hS ?_
    change wpAnyH _ _ _ _ _ _ _ (Act.put _ (some 7) _) _
    simp only [Act.put]
    refine wpAnyH_take (i := 6) (v := .int .i64 0) rfl (by kernel_rfl) (by kernel_rfl) (by kernel_rfl) (fun _ _ _ h => h) (Or.inl ⟨by kernel_rfl, fun u hSw => (by go_simp)⟩) hS ?_
    change wpAnyH _ _ _ _ _ _ _ (Act.put _ (some 8) _) _
    simp only [Act.put]
    refine wpAnyH_done (by kernel_rfl) ?_ _
    clear hS
    have HE := Lib.hid (And.intro HP (And.intro oD' (And.intro oV' (And.intro hl1 hl2))))
    clear HP oD' oV' K0' KI' hl1 hl2 KP K1 K2
    go_wp2_with fail
    try go_simp
    rw [HV.out]
    exact bodyPost_ret (v := .tuple #[.agg #[.slice A3 n3 c3', .slice B3 m3 d3], .int .i64 ((g : Int) + 1), .int .i64 0]) (results_row3 Try.results22 _ _ _ _ _ _ rfl HE.out.1.1 Try.underlying25 rfl (by kernel_rfl)) rfl ⟨A3, n3, c3', B3, m3, d3, rfl, HE.out.2.2.2.1, HE.out.2.2.2.2, own_down HE.out.2.1 (by omega), own_down HE.out.2.2.1 (by omega), HE.out.1.2⟩
  · have HV : Hid (addQ ds us dom h s = ([], [], 0, unE ds us dom h s)) := Lib.hid (by unfold addQ; rw [if_neg hE])
    obtain ⟨E, hE2⟩ : ∃ E, unE ds us dom h s = E := ⟨_, rfl⟩
    rw [hE2] at HV HUn hE
    have e0 : (E == 0) = false := by simp; exact hE
    clear hE2 hE HG
    go_enter Try.func22, Try.ntmps22
    go_wp2_with fail
    refine (HUn.out _ GB).mono ?_
    rintro e w1 ⟨rfl, h9⟩
    replace K3 := K3.below h9 K3.lt
    replace GB := GB.trans (h9.mono GB.size)
    have z0 := K3.cell 0
    have z1 := K3.cell 1
    have y0 := K3.frozen 0
    have y1 := K3.frozen 1
    have HKF := Lib.hid (put2 (x := .slice none 0 0) (y := .slice none 0 0) K3 GB (by omega))
    clear h9 k0 k1 k2 k3 k4 K0 K1 K2 K3 GB
    go_wp2_with fail
    rw [HV.out]
    exact bodyPost_ret (v := .tuple #[.agg #[.slice none 0 0, .slice none 0 0], .int .i64 0, .int .i64 E]) (results_row3 Try.results22 _ _ _ _ _ _ rfl HKF.out.1 Try.underlying25 rfl (by kernel_rfl)) rfl (GivesA.none_ HKF.out.2)

end Go.Proofs.Ytknimnopopnbhaa
