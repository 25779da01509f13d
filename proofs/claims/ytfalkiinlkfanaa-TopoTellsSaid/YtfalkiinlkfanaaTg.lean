/-
  The contract of the document's Decode of topologies. No statement is proved here.
-/
import Derived.Test.YtfalkiinlkfanaaTd
import Derived.Test.YtfalkiinlkfanaaTf
import Derived.Deep.RegionHeld3
import Derived.Deep.DeepCutAuto
import Derived.Deep.CutBlock
namespace Go.Proofs.Ytfalkiinlkfanaa
open Go.RowKit

/-- what results_row asks: a topology and a word beside it -/
theorem results_topo {P : Program} {fn : Func} {p q : Tmp} {ty : TypeId} (h : fn.results = #[.cell p ty, .tmp q]) (tmps : Array Value) (w : World) (g : Nat) (t : TypeId) (cs : Array Value) (d : TypeDesc)
    (hp : tmps.getD p undef = .pointer (some ⟨g, 0, none⟩)) (hg : w.heap[g]? = some (.cells cs t (0, 0)))
    (hu : P.underlying ty = some d) (hd : (match d with | .struct _ | .array _ _ => true | _ => false) = true) (hi : (P.info? ty).map (·.size) = some cs.size) :
    (results fn tmps).run P w = .ok (.tuple #[.agg cs, tmps.getD q undef]) w := by
  have hp' : tmps[p]?.getD undef = .pointer (some ⟨g, 0, none⟩) := by simpa using hp
  simp [results, h, hp', asAddr, run_loadVar_row w g t ty cs (0, 0) d hg hu hd hi]

/-- the bytes, where they lie -/
def ByteS (ad : Addr) (bs : List Int) (W : World) : Prop := ∀ (i : Nat) (x : Int), bs[i]? = some x → W.cell? (ad.add i) = some (.int .u8 x)
section
variable {ad : Addr} {bs : List Int} {W W' : World} {B : Nat}
theorem ByteS.alloc (h : ByteS ad bs W) (hB : B ≤ W.heap.size) (hb : ad.block < B) (o : Obj) : ByteS ad bs (W.alloc o) := fun i x hx => (World.cell?_alloc_lt W o (ad.add i) (by rw [block_of_add]; omega)).trans (h i x hx)
theorem ByteS.grown {row : Option Nat} (h : ByteS ad bs W) (hg : W.grownBy W' row) (hB : B ≤ W.heap.size) (hb : ad.block < B) (hr : ∀ g, row = some g → B ≤ g) : ByteS ad bs W' := fun i x hx =>
  (World.cell?_of_block (hg.block _ (by rw [block_of_add]; omega) (fun e => by have := hr _ e.symm; rw [block_of_add] at this; omega))).trans (h i x hx)
theorem ByteS.set (h : ByteS ad bs W) {g : Nat} (hg : ad.block ≠ g) (i : Nat) (u : Value) : ByteS ad bs (W.setCell ⟨g, i, none⟩ u) := fun j x hx =>
  (World.cell?_setCell_other W ⟨g, i, none⟩ (ad.add j) u (fun e => by have := congrArg Addr.block e; rw [block_of_add] at this; first | exact hg this | exact hg this.symm)).trans (h j x hx)
theorem ByteS.below (h : ByteS ad bs W) (hb : Below B W W') (hB : ad.block < B) : ByteS ad bs W' := fun i x hx => (hb.cell (p := ad.add i) (by rw [block_of_add]; exact hB)).trans (h i x hx)
end
theorem ByteS.below' {ad : Addr} {bs : List Int} {w w' W : World} {B : Nat} (h : ByteS ad bs W) (hb : ad.block < B) (hw : Below B w w') (hW : Below B w W := by first | exact HK.out.2.2 | assumption) : ByteS ad bs w' := fun i x hx => by
  have hl : (ad.add i).block < B := by rw [block_of_add]; exact hb
  exact (hw.cell hl).trans ((hW.cell hl).symm.trans (h i x hx))
theorem bytes_of {w : World} {B n : Nat} {A : Option Addr} {bs : List Int} (h : Reads w B 1 A n (bv bs)) (h0 : 0 < n) : ∃ ad, A = some ad ∧ ad.block < B ∧ ByteS ad bs w := by
  obtain ⟨ad, e, hb, hc⟩ := h.2 h0
  exact ⟨ad, e, hb, fun i x hx => hc i _ (by unfold bv; rw [List.getElem?_map, hx]; rfl)⟩
theorem reads_two {w : World} {g : Nat} {t : TypeId} {a b : Value} (h : Blk w g t #[a, b]) : Reads w w.heap.size 2 (some ⟨g, 0, none⟩) 1 [a, b] := by
  refine ⟨rfl, fun _ => ⟨_, rfl, h.lt, fun j u hj => ?_⟩⟩
  match j, hj with
  | 0, hj => simp at hj; subst hj; exact h.cell 0
  | 1, hj => simp at hj; subst hj; exact h.cell 1
theorem own_set {w : World} {base n size : Nat} {e : TypeId} {v : Value} {xs : List Value} (h : w.ownsRow base e size v n xs) {g : Nat} (hg : g < base) (i : Nat) (u : Value) : (w.setCell ⟨g, i, none⟩ u).ownsRow base e size v n xs := by
  refine h.kept (row := some g) ⟨rfl, rfl, rfl, by simp [World.setCell], fun k _ hne => Below.heap_setCell w _ u k (fun he => hne (by rw [he]))⟩ ?_
  cases ho : v.ownBlock with
  | none => exact .inl rfl
  | some k =>
    refine .inr (fun he => ?_)
    have := (h.lt k ho).1
    injection he with he
    omega

/-- the first k seats that bytes tell -/
def seatsOf (bs : List Int) (k : Nat) : List (Int × Int) := (List.range k).map fun i => (bs.getD (1 + 2 * i) 0, bs.getD (2 + 2 * i) 0)
theorem seatsOf_step (bs : List Int) (k : Nat) {p q : Int} (h1 : bs[1 + 2 * k]? = some p) (h2 : bs[2 + 2 * k]? = some q) : svs (seatsOf bs (k + 1)) = svs (seatsOf bs k) ++ [.int .i64 p, .int .i64 q] := by
  unfold seatsOf svs
  rw [List.range_succ, List.map_append, flat_append, List.map_cons, List.map_nil, flat_one, List.getD_eq_getElem?_getD, List.getD_eq_getElem?_getD, h1, h2]
  rfl
theorem length_seatsOf (bs : List Int) (k : Nat) : (seatsOf bs k).length = k := by simp [seatsOf]
/-- the topology of bytes; the error -/
def decodeV (bs : List Int) : List (Int × Int) × Int :=
  if bs.length < 1 ∨ (bs.length : Int) < 1 + 2 * bs.getD 0 0 then ([], 7)
  else if rightT (seatsOf bs (bs.getD 0 0).toNat) = true ∧ (bs.length : Int) = 1 + 2 * bs.getD 0 0 then (seatsOf bs (bs.getD 0 0).toNat, 0) else ([], 160)
def Makes (r : List (Int × Int) × Int) (w : World) (e : Ending) (w' : World) : Prop :=
  ∃ A n c, e = .returned (.tuple #[.agg #[.slice A n c], .int .i64 r.2]) ∧ n = r.1.length ∧ n ≤ c ∧ FarReads w w' 2 A n (svs r.1) ∧ Below w.heap.size w w'
theorem Makes.none_ {w w' : World} {c : Int} (hb : Below w.heap.size w w') : Makes ([], c) w (.returned (.tuple #[.agg #[.slice none 0 0], .int .i64 c])) w' :=
  ⟨none, 0, 0, rfl, rfl, Nat.le_refl _, ⟨Reads.none_, fun _ h => by cases h⟩, hb⟩

set_option maxRecDepth 100000 in
set_option maxHeartbeats 8000000 in
theorem rdecode_any (A : Option Addr) (n c : Nat) (bs : List Int) (w : World) (hl : bs.length = n) (hby : ∀ (k : Nat) (x : Int), bs[k]? = some x → 0 ≤ x ∧ x < 256) (hR : Reads w w.heap.size 1 A n (bv bs)) (hn : n ≤ 600) :
    Calls Try.prog 33 #[.slice A n c] w (Makes (decodeV bs) w) := by
  obtain ⟨i0, hi0, hz0, hz1, hz2⟩ := info_parts seat_info
  obtain ⟨K, B⟩ : Blk (w.alloc (.cells #[.slice none 0 0] 27)) w.heap.size 27 #[.slice none 0 0] ∧ Below w.heap.size w (w.alloc (.cells #[.slice none 0 0] 27)) := ⟨Blk.new _ _ _, (Below.refl _ _).alloc (Nat.le_refl _) _⟩
  by_cases h1 : n < 1
  · have HV : Hid (decodeV bs = ([], 7)) := Lib.hid (by unfold decodeV; rw [if_pos (.inl (by omega))])
    have e1 : (n : Int) < 1 := by omega
    have HK := Lib.hid (And.intro K B)
    clear hl hby hR hn h1 K B hi0 hz0 hz1 hz2
    go_enter Try.func33, Try.ntmps33
    go_wp2_with fail
    rw [HV.out]
    exact bodyPost_ret (v := .tuple #[.agg #[.slice none 0 0], .int .i64 7]) (results_topo Try.results33 _ _ _ _ _ _ rfl HK.out.1 Try.underlying27 rfl (by kernel_rfl)) rfl (Makes.none_ HK.out.2)
  · obtain ⟨ad, rfl, hb, hBy⟩ := bytes_of hR (by omega)
    obtain ⟨b0, hb0⟩ := elem_at (l := bs) (k := 0) (by omega)
    obtain ⟨z0, z1⟩ := hby 0 b0 hb0
    obtain ⟨z, rfl⟩ := Int.eq_ofNat_of_zero_le z0
    have hg0 : bs.getD 0 0 = (z : Int) := by rw [List.getD_eq_getElem?_getD, hb0]; rfl
    have FR0 := hBy.alloc (Nat.le_refl _) hb (.cells #[.slice none 0 0] 27)
    have c0 : (w.alloc (.cells #[.slice none 0 0] 27)).cell? ad = some (.int .u8 (z : Int)) := by
      have := FR0 0 _ hb0
      rwa [show ad.add 0 = ad from rfl] at this
    have e1 : ¬ (n : Int) < 1 := by omega
    have n0 : 0 < n := by omega
    have wz : IntKind.i64.wrap (z : Int) = (z : Int) := by simp [IntKind.wrap, IntKind.bits, IntKind.signed]; omega
    have z3 : (z : Int) ≤ 255 := by omega
    by_cases h2 : (n : Int) < 1 + 2 * (z : Int)
    · have HV : Hid (decodeV bs = ([], 7)) := Lib.hid (by unfold decodeV; rw [if_pos (.inr (by rw [hg0, hl]; exact h2))])
      have HK := Lib.hid (And.intro K B)
      clear hl hby hR h1 K B hi0 hz0 hz1 hz2 FR0 hBy hb0 hg0 z0 z1
      go_enter Try.func33, Try.ntmps33
      go_wp2_with fail
      rw [HV.out]
      exact bodyPost_ret (v := .tuple #[.agg #[.slice none 0 0], .int .i64 7]) (results_topo Try.results33 _ _ _ _ _ _ rfl HK.out.1 Try.underlying27 rfl (by kernel_rfl)) rfl (Makes.none_ HK.out.2)
    · have HV : Hid (decodeV bs = if rightT (seatsOf bs z) = true ∧ (n : Int) = 1 + 2 * (z : Int) then (seatsOf bs z, 0) else ([], 160)) := Lib.hid (by
        unfold decodeV
        rw [hg0, hl, if_neg (by omega), Int.toNat_natCast])
      have HL := Lib.hid hl
      have HBy := Lib.hid hby
      have HF0 := Lib.hid (FR0.alloc (B := w.heap.size) (by simp) hb (.cells #[.slice none 0 0] 27))
      have HK := Lib.hid (And.intro (K.alloc (.cells #[.slice none 0 0] 27)) (And.intro (Blk.new (w.alloc (.cells #[.slice none 0 0] 27)) 27 #[.slice none 0 0]) (B.alloc B.size (.cells #[.slice none 0 0] 27))))
      have c1 : ((w.alloc (.cells #[.slice none 0 0] 27)).alloc (.cells #[.slice none 0 0] 27)).cell? ad = some (.int .u8 (z : Int)) := by
        have := HF0.out 0 _ hb0
        rwa [show ad.add 0 = ad from rfl] at this
      have HB0 := Lib.hid hb0
      clear hl hby hR h1 K B FR0 hBy hb0 hg0 z0 z1
      go_enter Try.func33, Try.ntmps33
      go_wp2_with fail
      clear c0 c1
      go_loopw [25] (fun i wr => ∃ (k : Nat) (v : Value), k ≤ z ∧ i = .int .i64 (k : Int) ∧ Hid (wr.ownsRow (w.heap.size + 1 + 1) 37 2 v k (svs (seatsOf bs k))) ∧ Blk wr (w.heap.size + 1) 27 #[v] ∧ Blk wr w.heap.size 27 #[.slice none 0 0] ∧ Below w.heap.size w wr) (fun i _ => z - (intOf i).toNat)
      case atStart => exact ⟨0, .slice none 0 0, by omega, rfl, Lib.hid (World.ownsRow_nil _ _ _ _), by simpa using HK.out.2.1, HK.out.1, HK.out.2.2⟩
      case round =>
        obtain ⟨k, v, hk, rfl, HO2, KT, KO, B1⟩ := hrel
        by_cases hlt : k < z
        · obtain ⟨m2, hm2⟩ : ∃ m, m = 2 * k := ⟨_, rfl⟩
          obtain ⟨i1, hi1⟩ : ∃ i, i = 1 + 2 * k := ⟨_, rfl⟩
          obtain ⟨i2, hi2⟩ : ∃ i, i = 2 + 2 * k := ⟨_, rfl⟩
          obtain ⟨p, hp⟩ := elem_at (l := bs) (k := i1) (by rw [HL.out]; omega)
          obtain ⟨q, hq⟩ := elem_at (l := bs) (k := i2) (by rw [HL.out]; omega)
          obtain ⟨p0, p1⟩ := HBy.out _ _ hp
          obtain ⟨q0, q1⟩ := HBy.out _ _ hq
          have HST := Lib.hid (seatsOf_step bs k (by rw [← hi1]; exact hp) (by rw [← hi2]; exact hq))
          have H1 := Lib.hid hp
          have H2 := Lib.hid hq
          have lz2 := B1.size
          have FR : ByteS ad bs wr := HF0.out.below' hb B1 HK.out.2.2
          have a1 : 2 * (k : Int) = (m2 : Int) := by omega
          have a2 : 1 + (m2 : Int) = (i1 : Int) := by omega
          have a3 : 2 + (m2 : Int) = (i2 : Int) := by omega
          have a4 : IntKind.i64.wrap (m2 : Int) = (m2 : Int) := by simp [IntKind.wrap, IntKind.bits, IntKind.signed]; omega
          have a5 : IntKind.i64.wrap (i1 : Int) = (i1 : Int) := by simp [IntKind.wrap, IntKind.bits, IntKind.signed]; omega
          have a6 : IntKind.i64.wrap (i2 : Int) = (i2 : Int) := by simp [IntKind.wrap, IntKind.bits, IntKind.signed]; omega
          have a7 : IntKind.i64.wrap p = p := by simp [IntKind.wrap, IntKind.bits, IntKind.signed]; omega
          have a8 : IntKind.i64.wrap q = q := by simp [IntKind.wrap, IntKind.bits, IntKind.signed]; omega
          have j1 : (0 : Int) ≤ (i1 : Int) := by omega
          have j2 : (i1 : Int) < (n : Int) := by omega
          have j3 : (0 : Int) ≤ (i2 : Int) := by omega
          have j4 : (i2 : Int) < (n : Int) := by omega
          have k600 : k ≤ 300 := by omega
          clear hm2 hi1 hi2 hp hq p0 p1 q0 q1 h2
          go_upto_region 7 with fail
          replace FR : ByteS ad bs wr.drew := FR
          replace KT : Blk wr.drew _ _ _ := KT
          replace KO : Blk wr.drew _ _ _ := KO
          replace HO2 : Hid (wr.drew.ownsRow (w.heap.size + 1 + 1) 37 2 v k (svs (seatsOf bs k))) := HO2
          replace B1 := B1.drew
          refine wp_region_held_drew (S := fun W => ByteS ad bs W) (by kernel_rfl) FR (fun hS => ?_)
          have lz2 : w.heap.size ≤ wr.drew.heap.size := lz2
          generalize wr.drew = V at FR KT KO HO2 B1 hS lz2 ⊢
          refine wpAnyH_take (i := 0) (v := .pointer (some ⟨w.heap.size + 1, 0, none⟩)) rfl (by kernel_rfl) (by kernel_rfl) (by kernel_rfl) (fun _ _ _ h => h) (Or.inl ⟨by rfl, fun u hSw => (by go_simp)⟩) hS ?_
          refine wpAnyH_take (i := 2) (v := .slice (some ad) n c) rfl (by kernel_rfl) (by kernel_rfl) (by kernel_rfl) (fun _ _ _ h => h) (Or.inl ⟨by rfl, fun u hSw => (by go_simp)⟩) hS ?_
          refine wpAnyH_take (i := 3) (v := .int .i64 (k : Int)) rfl (by kernel_rfl) (by kernel_rfl) (by kernel_rfl) (fun _ _ _ h => h) (Or.inl ⟨by rfl, fun u hSw => (by go_simp)⟩) hS ?_
          refine wpAnyH_take (i := 4) (v := .int .i64 (m2 : Int)) rfl (by kernel_rfl) (by kernel_rfl) (by kernel_rfl) (fun _ _ _ h => h) (Or.inl ⟨by rfl, fun u hSw => (by go_simp)⟩) hS ?_
          refine wpAnyH_take (i := 5) (v := .int .i64 (i1 : Int)) rfl (by kernel_rfl) (by kernel_rfl) (by kernel_rfl) (fun _ _ _ h => h) (Or.inl ⟨by rfl, fun u hSw => (by go_simp)⟩) hS ?_
          refine wpAnyH_take (i := 6) (v := .pointer (some (ad.add i1))) rfl (by kernel_rfl) (by kernel_rfl) (by kernel_rfl) (fun _ _ _ h => h) (Or.inl ⟨by rfl, fun u hSw => (by go_simp)⟩) hS ?_
          refine wpAnyH_take (i := 7) (v := .int .u8 p) rfl (by kernel_rfl) (by kernel_rfl) (by kernel_rfl) (fun _ _ _ h => h) (Or.inl ⟨by rfl, fun u hSw => (by have c := hSw _ _ H1.out; go_simp)⟩) hS ?_
          refine wpAnyH_take (i := 8) (v := .int .i64 p) rfl (by kernel_rfl) (by kernel_rfl) (by kernel_rfl) (fun _ _ _ h => h) (Or.inl ⟨by rfl, fun u hSw => (by go_simp)⟩) hS ?_
          refine wpAnyH_take (i := 9) (v := .slice (some ad) n c) rfl (by kernel_rfl) (by kernel_rfl) (by kernel_rfl) (fun _ _ _ h => h) (Or.inl ⟨by rfl, fun u hSw => (by go_simp)⟩) hS ?_
          refine wpAnyH_take (i := 10) (v := .int .i64 (k : Int)) rfl (by kernel_rfl) (by kernel_rfl) (by kernel_rfl) (fun _ _ _ h => h) (Or.inl ⟨by rfl, fun u hSw => (by go_simp)⟩) hS ?_
          refine wpAnyH_take (i := 11) (v := .int .i64 (m2 : Int)) rfl (by kernel_rfl) (by kernel_rfl) (by kernel_rfl) (fun _ _ _ h => h) (Or.inl ⟨by rfl, fun u hSw => (by go_simp)⟩) hS ?_
          refine wpAnyH_take (i := 12) (v := .int .i64 (i2 : Int)) rfl (by kernel_rfl) (by kernel_rfl) (by kernel_rfl) (fun _ _ _ h => h) (Or.inl ⟨by rfl, fun u hSw => (by go_simp)⟩) hS ?_
          refine wpAnyH_take (i := 13) (v := .pointer (some (ad.add i2))) rfl (by kernel_rfl) (by kernel_rfl) (by kernel_rfl) (fun _ _ _ h => h) (Or.inl ⟨by rfl, fun u hSw => (by go_simp)⟩) hS ?_
          refine wpAnyH_take (i := 14) (v := .int .u8 q) rfl (by kernel_rfl) (by kernel_rfl) (by kernel_rfl) (fun _ _ _ h => h) (Or.inl ⟨by rfl, fun u hSw => (by have c := hSw _ _ H2.out; go_simp)⟩) hS ?_
          refine wpAnyH_take (i := 15) (v := .int .i64 q) rfl (by kernel_rfl) (by kernel_rfl) (by kernel_rfl) (fun _ _ _ h => h) (Or.inl ⟨by rfl, fun u hSw => (by go_simp)⟩) hS ?_
          refine wpAnyH_take (i := 16) (v := .agg #[.int .i64 p, .int .i64 q]) rfl (by kernel_rfl) (by kernel_rfl) (by kernel_rfl) (fun _ _ _ h => h) (Or.inl ⟨by rfl, fun u hSw => (by go_simp)⟩) hS ?_
          refine wpAnyH_ready (rs := [1, 17]) (by kernel_rfl) (by simp) ?_
          refine AllReadyH.cons rfl (fun K hK => ?_) (AllReadyH.cons rfl (fun K hK => ?_) (AllReadyH.nil))
          · skip
            have c0 := KT.cell 0
            go_simp
            refine hK.out _ _ FR (fun hS => ?_)
            clear hK K c0
            refine wpAnyH_ready (rs := [17]) (by kernel_rfl) (by simp) ?_
            refine AllReadyH.cons rfl (fun K hK => ?_) (AllReadyH.nil)
            go_simp
            have FL := Blk.new V 37 #[.int .i64 p, .int .i64 q]
            have lz := B1.size
            replace KT := KT.alloc (.cells #[.int .i64 p, .int .i64 q] 37)
            replace KO := KO.alloc (.cells #[.int .i64 p, .int .i64 q] 37)
            replace B1 := B1.alloc B1.size (.cells #[.int .i64 p, .int .i64 q] 37)
            have HO3 := Lib.hid (HO2.out.alloc (.cells #[.int .i64 p, .int .i64 q] 37))
            replace FR : ByteS ad bs _ := fun i x hx => (FR.alloc lz2 hb (.cells #[.int .i64 p, .int .i64 q] 37)) i x hx
            refine hK.out _ _ FR (fun hS => ?_)
            clear hK K HO2
            generalize V.alloc (.cells #[.int .i64 p, .int .i64 q] 37) = V2 at FL KT KO B1 HO3 FR hS ⊢
            generalize V.heap.size = gL at FL ⊢
            refine wpAnyH_ready (rs := [18]) (by kernel_rfl) (by simp) ?_
            refine AllReadyH.cons rfl (fun K hK => ?_) (AllReadyH.nil)
            have zz := B1.size
            refine step_append_any _ rfl (.tmp 29) (.tmp 45) 25 rfl (w.heap.size + 1 + 1) 37 i0 (.agg #[.int .i64 0, .int .i64 0]) 2 16 Try.underlying25 hi0 hz0 hz1 hz2 rfl (by decide) v k _ rfl HO3.out V2.heap.size (some ⟨gL, 0, none⟩) 1 1 [.int .i64 p, .int .i64 q] rfl (reads_two FL) (by simp [Value.oneCell']) (by simp only [maxLen]; omega) (by omega) (by have := KT.lt; omega) ?_
            intro v2 w3 hown3 hg3 _
            obtain ⟨A2, c2, rfl, _, _⟩ := own_reads hown3
            have hn3 : ∀ g, v.ownBlock = some g → w.heap.size + 1 + 1 ≤ g := fun g hg => (HO3.out.lt g hg).1
            replace KT := KT.grown hg3 (fun he => by have := hn3 _ he.symm; omega)
            replace KO := KO.grown hg3 (fun he => by have := hn3 _ he.symm; omega)
            replace FR := FR.grown hg3 (by omega) hb (fun g hg => by have := hn3 g hg; omega)
            replace B1 := B1.grown hg3 zz (fun g hg => by have := hn3 g hg; omega)
            have HO4 := Lib.hid hown3
            clear hn3 hg3 hown3 HO3
            refine hK.out _ _ FR (fun hS => ?_)
            clear hK K FL
            refine wpAnyH_take (i := 19) (v := .pointer (some ⟨w.heap.size + 1, 0, none⟩)) rfl (by kernel_rfl) (by kernel_rfl) (by kernel_rfl) (fun _ _ _ h => h) (Or.inl ⟨by rfl, fun u hSw => (by go_simp)⟩) hS ?_
            refine wpAnyH_ready (rs := [20]) (by kernel_rfl) (by simp) ?_
            refine AllReadyH.cons rfl (fun K hK => ?_) (AllReadyH.nil)
            have c0 := KT.cell 0
            have f0 := KT.frozen 0
            have HO5 := Lib.hid (own_set HO4.out (show w.heap.size + 1 < w.heap.size + 1 + 1 by omega) 0 (.slice A2 (k + 1) c2))
            have KT2 := put1 (x := .slice A2 (k + 1) c2) KT B1 (by omega)
            have KO2 := KO.far (p := ⟨w.heap.size + 1, 0, none⟩) (by simp) (.slice A2 (k + 1) c2)
            have FR2 := FR.set (g := w.heap.size + 1) (by omega) 0 (.slice A2 (k + 1) c2)
            go_simp
            refine hK.out _ _ FR2 (fun hS => ?_)
            clear hK K c0 f0 KT KO FR B1 HO4 hS
            refine wpAnyH_done (by kernel_rfl) ?_ _
            go_wp2
            go_roundw
            case rel => exact ⟨k + 1, .slice A2 (k + 1) c2, by omega, by go_num, Lib.hid (by rw [HST.out]; exact HO5.out), KT2.1, KO2, KT2.2⟩
            case measure => simp [intOf]; omega
          · skip
            go_simp
            have FL := Blk.new V 37 #[.int .i64 p, .int .i64 q]
            have lz := B1.size
            replace KT := KT.alloc (.cells #[.int .i64 p, .int .i64 q] 37)
            replace KO := KO.alloc (.cells #[.int .i64 p, .int .i64 q] 37)
            replace B1 := B1.alloc B1.size (.cells #[.int .i64 p, .int .i64 q] 37)
            have HO3 := Lib.hid (HO2.out.alloc (.cells #[.int .i64 p, .int .i64 q] 37))
            replace FR : ByteS ad bs _ := fun i x hx => (FR.alloc lz2 hb (.cells #[.int .i64 p, .int .i64 q] 37)) i x hx
            refine hK.out _ _ FR (fun hS => ?_)
            clear hK K HO2
            generalize V.alloc (.cells #[.int .i64 p, .int .i64 q] 37) = V2 at FL KT KO B1 HO3 FR hS ⊢
            generalize V.heap.size = gL at FL ⊢
            refine wpAnyH_ready (rs := [1]) (by kernel_rfl) (by simp) ?_
            refine AllReadyH.cons rfl (fun K hK => ?_) (AllReadyH.nil)
            have c0 := KT.cell 0
            go_simp
            refine hK.out _ _ FR (fun hS => ?_)
            clear hK K c0
            refine wpAnyH_ready (rs := [18]) (by kernel_rfl) (by simp) ?_
            refine AllReadyH.cons rfl (fun K hK => ?_) (AllReadyH.nil)
            have zz := B1.size
            refine step_append_any _ rfl (.tmp 29) (.tmp 45) 25 rfl (w.heap.size + 1 + 1) 37 i0 (.agg #[.int .i64 0, .int .i64 0]) 2 16 Try.underlying25 hi0 hz0 hz1 hz2 rfl (by decide) v k _ rfl HO3.out V2.heap.size (some ⟨gL, 0, none⟩) 1 1 [.int .i64 p, .int .i64 q] rfl (reads_two FL) (by simp [Value.oneCell']) (by simp only [maxLen]; omega) (by omega) (by have := KT.lt; omega) ?_
            intro v2 w3 hown3 hg3 _
            obtain ⟨A2, c2, rfl, _, _⟩ := own_reads hown3
            have hn3 : ∀ g, v.ownBlock = some g → w.heap.size + 1 + 1 ≤ g := fun g hg => (HO3.out.lt g hg).1
            replace KT := KT.grown hg3 (fun he => by have := hn3 _ he.symm; omega)
            replace KO := KO.grown hg3 (fun he => by have := hn3 _ he.symm; omega)
            replace FR := FR.grown hg3 (by omega) hb (fun g hg => by have := hn3 g hg; omega)
            replace B1 := B1.grown hg3 zz (fun g hg => by have := hn3 g hg; omega)
            have HO4 := Lib.hid hown3
            clear hn3 hg3 hown3 HO3
            refine hK.out _ _ FR (fun hS => ?_)
            clear hK K FL
            refine wpAnyH_take (i := 19) (v := .pointer (some ⟨w.heap.size + 1, 0, none⟩)) rfl (by kernel_rfl) (by kernel_rfl) (by kernel_rfl) (fun _ _ _ h => h) (Or.inl ⟨by rfl, fun u hSw => (by go_simp)⟩) hS ?_
            refine wpAnyH_ready (rs := [20]) (by kernel_rfl) (by simp) ?_
            refine AllReadyH.cons rfl (fun K hK => ?_) (AllReadyH.nil)
            have c0 := KT.cell 0
            have f0 := KT.frozen 0
            have HO5 := Lib.hid (own_set HO4.out (show w.heap.size + 1 < w.heap.size + 1 + 1 by omega) 0 (.slice A2 (k + 1) c2))
            have KT2 := put1 (x := .slice A2 (k + 1) c2) KT B1 (by omega)
            have KO2 := KO.far (p := ⟨w.heap.size + 1, 0, none⟩) (by simp) (.slice A2 (k + 1) c2)
            have FR2 := FR.set (g := w.heap.size + 1) (by omega) 0 (.slice A2 (k + 1) c2)
            go_simp
            refine hK.out _ _ FR2 (fun hS => ?_)
            clear hK K c0 f0 KT KO FR B1 HO4 hS
            refine wpAnyH_done (by kernel_rfl) ?_ _
            go_wp2
            go_roundw
            case rel => exact ⟨k + 1, .slice A2 (k + 1) c2, by omega, by go_num, Lib.hid (by rw [HST.out]; exact HO5.out), KT2.1, KO2, KT2.2⟩
            case measure => simp [intOf]; omega
        · obtain rfl : z = k := by omega
          obtain ⟨A2, c2, rfl, hc2, _⟩ := own_reads HO2.out
          have HRt := Lib.hid (rrightT_any A2 z c2 (seatsOf bs z) wr (Reads.of_own HO2.out) (by unfold maxLen; omega))
          have FR : ByteS ad bs wr := HF0.out.below' hb B1 HK.out.2.2
          have c0 := KT.cell 0
          have HLS := Lib.hid (length_seatsOf bs z)
          have HC2 := Lib.hid hc2
          have KTl := KT.lt
          clear HF0 HK hc2
          cases hrb : rightT (seatsOf bs z) with
          | false =>
            rw [hrb] at HRt HV
            clear hrb
            go_wp2_with fail
            refine HRt.out.mono ?_
            rintro e w4 ⟨rfl, h4⟩
            replace KO := KO.below h4 KO.lt
            replace B1 := B1.trans (h4.mono B1.size)
            have d0 := KO.cell 0
            have f0 := KO.frozen 0
            have HKF := Lib.hid (put1 (x := .slice none 0 0) KO B1 (Nat.le_refl _))
            clear h4 c0 KT KO FR B1
            go_wp2_with fail
            rw [HV.out, if_neg (by simp)]
            exact bodyPost_ret (v := .tuple #[.agg #[.slice none 0 0], .int .i64 160]) (results_topo Try.results33 _ _ _ _ _ _ rfl HKF.out.1 Try.underlying27 rfl (by kernel_rfl)) rfl (Makes.none_ HKF.out.2)
          | true =>
            rw [hrb] at HRt HV
            clear hrb
            by_cases he : (n : Int) = 1 + 2 * (z : Int)
            · have g : ((n : Int) == 1 + 2 * (z : Int)) = true := by simpa using he
              have HV2 : Hid (decodeV bs = (seatsOf bs z, 0)) := Lib.hid (by rw [HV.out, if_pos ⟨rfl, he⟩])
              clear he HV h2
              go_wp2_with fail
              refine HRt.out.mono ?_
              rintro e w4 ⟨rfl, h4⟩
              replace KT := KT.below h4 KT.lt
              replace KO := KO.below h4 KO.lt
              replace B1 := B1.trans (h4.mono B1.size)
              have c1 : w4.cell? ad = some (.int .u8 (z : Int)) := by
                have := (FR.below h4 (by omega)) 0 _ HB0.out
                rwa [show ad.add 0 = ad from rfl] at this
              have c2' := KT.cell 0
              have d0 := KO.cell 0
              have f0 := KO.frozen 0
              have HKF := Lib.hid (put1 (x := .slice A2 z c2) KO B1 (Nat.le_refl _))
              have HFA := Lib.hid (own_far (own_below HO2.out h4) (show w.heap.size < w.heap.size + 1 + 1 by omega) 0 (.slice A2 z c2))
              clear h4 c0 KT KO FR B1 HO2
              go_wp2_with fail
              rw [HV2.out]
              exact bodyPost_ret (v := .tuple #[.agg #[.slice A2 z c2], .int .i64 0]) (results_topo Try.results33 _ _ _ _ _ _ rfl HKF.out.1 Try.underlying27 rfl (by kernel_rfl)) rfl ⟨A2, z, c2, rfl, HLS.out.symm, HC2.out, ⟨HFA.out.1, fun ad2 hA h0 => by have := HFA.out.2 ad2 hA h0; omega⟩, HKF.out.2⟩
            · have g : ((n : Int) == 1 + 2 * (z : Int)) = false := by simpa using he
              have HV2 : Hid (decodeV bs = ([], 160)) := Lib.hid (by rw [HV.out, if_neg (fun h => he h.2)])
              clear he HV h2
              go_wp2_with fail
              refine HRt.out.mono ?_
              rintro e w4 ⟨rfl, h4⟩
              replace KO := KO.below h4 KO.lt
              replace B1 := B1.trans (h4.mono B1.size)
              have c1 : w4.cell? ad = some (.int .u8 (z : Int)) := by
                have := (FR.below h4 (by omega)) 0 _ HB0.out
                rwa [show ad.add 0 = ad from rfl] at this
              have d0 := KO.cell 0
              have f0 := KO.frozen 0
              have HKF := Lib.hid (put1 (x := .slice none 0 0) KO B1 (Nat.le_refl _))
              clear h4 c0 KT KO FR B1 HO2
              go_wp2_with fail
              rw [HV2.out]
              exact bodyPost_ret (v := .tuple #[.agg #[.slice none 0 0], .int .i64 160]) (results_topo Try.results33 _ _ _ _ _ _ rfl HKF.out.1 Try.underlying27 rfl (by kernel_rfl)) rfl (Makes.none_ HKF.out.2)

end Go.Proofs.Ytfalkiinlkfanaa
