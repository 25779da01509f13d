/-
  The landed joined: the entity of some. No statement is proved here.
-/
import Derived.Test.YtniilfcbiliegaaZMe
namespace Go.Proofs.Ytniilfcbiliegaa
open Go.RowKit Go.Maps

theorem own_other {V W : World} {base e s n : Nat} {v v1 : Value} {xs : List Value} (h : V.ownsRow base e s v n xs) (hg : V.grownBy W v1.ownBlock) (hne : ∀ k k', v.ownBlock = some k → v1.ownBlock = some k' → k ≠ k') : W.ownsRow base e s v n xs := by
  refine h.kept hg ?_
  cases ho : v.ownBlock with
  | none => exact .inl rfl
  | some k => exact .inr (fun he => hne k k ho he.symm rfl)
theorem ne_other {V : World} {base e s n : Nat} {v v1 v2 : Value} {xs : List Value} (h : V.ownsRow base e s v n xs) (hne : ∀ k k', v.ownBlock = some k → v1.ownBlock = some k' → k ≠ k')
    (hw : v2.ownBlock = v1.ownBlock ∨ v2.ownBlock = some V.heap.size) : ∀ k k', v.ownBlock = some k → v2.ownBlock = some k' → k ≠ k' := by
  intro k k' hk hk'
  rcases hw with e | e
  · rw [e] at hk'; exact hne k k' hk hk'
  · rw [e] at hk'
    injection hk' with hk'
    have := (h.lt k hk).2
    omega
theorem Blk.own {w w' : World} {g : Nat} {t : TypeId} {cs : Array Value} {base e s n : Nat} {v : Value} {xs : List Value} (h : Blk w g t cs) (ho : w.ownsRow base e s v n xs) (hg : w.grownBy w' v.ownBlock) (hb : g < base) : Blk w' g t cs :=
  h.grown hg (fun he => by have := (ho.lt g he.symm).1; omega)
/-- an entity that is being joined -/
structure JS (w wr : World) (ps : List Pt) (k : Nat) (Am : Option Addr) (cm : Nat) (s : Value) : Prop where
  blk : Blk wr (w.heap.size + 1) 47 #[.slice Am k cm, .int .u64 0, .int .u64 0, .int .u64 0, .int .u64 (ordP (ps.take k) : Int), .bool (freshP (ps.take k))]
  ms : wr.ownsRow (w.heap.size + 1 + 1) 3 1 (.slice Am k cm) k (vs (idsP (ps.take k)))
  ts : wr.ownsRow (w.heap.size + 1 + 1) 45 3 s k (fvs (timesP (ps.take k)))
  ne : ∀ j j', s.ownBlock = some j → (Value.slice Am k cm).ownBlock = some j' → j ≠ j'
  res : Blk wr w.heap.size 47 #[.slice none 0 0, .int .u64 0, .int .u64 0, .int .u64 0, .int .u64 0, .bool false]
  below : Below w.heap.size w wr
theorem ordP_snoc {ps : List Pt} {k : Nat} {p : Pt} (h : ps[k]? = some p) : ordP (ps.take (k + 1)) = min (ordP (ps.take k)) p.2.2.1 := by
  unfold ordP
  rw [List.take_add_one, h, List.foldl_append]
  rfl
theorem freshP_snoc {ps : List Pt} {k : Nat} {p : Pt} (h : ps[k]? = some p) : freshP (ps.take (k + 1)) = (freshP (ps.take k) && p.2.2.2) := by
  unfold freshP
  rw [List.take_add_one, h, List.all_append]
  simp
theorem idsP_snoc {ps : List Pt} {k : Nat} {p : Pt} (h : ps[k]? = some p) : idsP (ps.take (k + 1)) = idsP (ps.take k) ++ [p.1] := by
  unfold idsP
  rw [List.take_add_one, h, List.map_append]
  rfl
theorem timesP_snoc {ps : List Pt} {k : Nat} {p : Pt} (h : ps[k]? = some p) : timesP (ps.take (k + 1)) = timesP (ps.take k) ++ [p.2.1.2] := by
  unfold timesP
  rw [List.take_add_one, h, List.map_append]
  rfl
/-- a row of parts that lies somewhere -/
structure PR (w : World) (A : Option Addr) (n : Nat) (ps : List Pt) : Prop where
  row : Reads w w.heap.size 8 A n (flat pv ps)
  small : n ≤ 100
theorem PR.len {w : World} {A : Option Addr} {n : Nat} {ps : List Pt} (h : PR w A n ps) : ps.length = n := by
  have h1 := h.row.1
  rw [length_flat pv length_pv] at h1
  omega
theorem PR.below {w w' : World} {A : Option Addr} {n : Nat} {ps : List Pt} (h : PR w A n ps) (hb : Below w.heap.size w w') : PR w' A n ps := ⟨(h.row.below hb).more hb.size, h.small⟩
theorem PR.at_ {w : World} {A : Option Addr} {n : Nat} {ps : List Pt} (h : PR w A n ps) {k : Nat} {i e : Int} {a b x o : Nat} {f : Bool} (hx : ps[k]? = some (i, (e, a, b, x), o, f)) :
    ∃ ad, A = some ad ∧ ad.block < w.heap.size ∧ w.cell? (ad.add (k * 8)) = some (.int .i64 i) ∧ w.cell? ⟨(ad.add (k * 8)).block, (ad.add (k * 8)).off + 1, none⟩ = some (.int .i64 e) ∧
      w.cell? ⟨(ad.add (k * 8)).block, (ad.add (k * 8)).off + 2, none⟩ = some (.int .u64 (a : Int)) ∧ w.cell? ⟨(ad.add (k * 8)).block, (ad.add (k * 8)).off + 3, none⟩ = some (.int .u64 (b : Int)) ∧
      w.cell? ⟨(ad.add (k * 8)).block, (ad.add (k * 8)).off + 4, none⟩ = some (.int .u64 (x : Int)) ∧ w.cell? ⟨(ad.add (k * 8)).block, (ad.add (k * 8)).off + 5, none⟩ = some (.int .i64 i) ∧
      w.cell? ⟨(ad.add (k * 8)).block, (ad.add (k * 8)).off + 6, none⟩ = some (.int .u64 (o : Int)) ∧ w.cell? ⟨(ad.add (k * 8)).block, (ad.add (k * 8)).off + 7, none⟩ = some (.bool f) := by
  obtain ⟨ad, e, hb, hc⟩ := h.row.elem pv length_pv hx (by omega)
  have s0 := hc 0 _ rfl
  have s1 := hc 1 _ rfl
  have s2 := hc 2 _ rfl
  have s3 := hc 3 _ rfl
  have s4 := hc 4 _ rfl
  have s5 := hc 5 _ rfl
  have s6 := hc 6 _ rfl
  have s7 := hc 7 _ rfl
  rw [Nat.add_zero] at s0
  rw [add_past ad (k * 8) 0] at s1
  rw [add_past ad (k * 8) 1] at s2
  rw [add_past ad (k * 8) 2] at s3
  rw [add_past ad (k * 8) 3] at s4
  rw [add_past ad (k * 8) 4] at s5
  rw [add_past ad (k * 8) 5] at s6
  rw [add_past ad (k * 8) 6] at s7
  exact ⟨ad, e, hb, s0, s1, s2, s3, s4, s5, s6, s7⟩

theorem js_end {w w1 : World} {ps : List Pt} {k : Nat} {A : Option Addr} {c : Nat} {v : Value} {O o : Nat} {F : Bool} (g : Bool)
    (KB : Blk w1 (w.heap.size + 1) 47 #[.slice A (k + 1) c, .int .u64 0, .int .u64 0, .int .u64 0, .int .u64 (O : Int), .bool F])
    (MS : w1.ownsRow (w.heap.size + 1 + 1) 3 1 (.slice A (k + 1) c) (k + 1) (vs (idsP (ps.take (k + 1)))))
    (TS : w1.ownsRow (w.heap.size + 1 + 1) 45 3 v (k + 1) (fvs (timesP (ps.take (k + 1)))))
    (RS : Blk w1 w.heap.size 47 #[.slice none 0 0, .int .u64 0, .int .u64 0, .int .u64 0, .int .u64 0, .bool false])
    (BL : Below w.heap.size w w1) (NE : ∀ j j', (Value.slice A (k + 1) c).ownBlock = some j → v.ownBlock = some j' → j ≠ j')
    (hO : ordP (ps.take (k + 1)) = min O o) (hF : freshP (ps.take (k + 1)) = g) :
    JS w ((w1.setCell ⟨w.heap.size + 1, 4, none⟩ (.int .u64 (min (O : Int) (o : Int)))).setCell ⟨w.heap.size + 1, 5, none⟩ (.bool g)) ps (k + 1) A c v := by
  have e : (min (O : Int) (o : Int)) = ((min O o : Nat) : Int) := by omega
  rw [e]
  refine ⟨?_, own_set (own_set MS (g := w.heap.size + 1) (by omega) 4 _) (g := w.heap.size + 1) (by omega) 5 _, own_set (own_set TS (g := w.heap.size + 1) (by omega) 4 _) (g := w.heap.size + 1) (by omega) 5 _, fun j j' hj hj' => (NE j' j hj' hj).symm, ?_, ?_⟩
  · have := (KB.set_ 4 (.int .u64 ((min O o : Nat) : Int))).set_ 5 (.bool g)
    rw [hO, hF]
    simpa using this
  · exact (RS.far (p := ⟨w.heap.size + 1, 4, none⟩) (by show w.heap.size ≠ w.heap.size + 1; omega) _).far (p := ⟨w.heap.size + 1, 5, none⟩) (by show w.heap.size ≠ w.heap.size + 1; omega) _
  · exact (BL.setCell (p := ⟨w.heap.size + 1, 4, none⟩) (by show w.heap.size ≤ w.heap.size + 1; omega) _).setCell (p := ⟨w.heap.size + 1, 5, none⟩) (by show w.heap.size ≤ w.heap.size + 1; omega) _

/-- the result's last stores -/
theorem put6 {w w1 : World} {g b : Nat} {t : TypeId} {p1 p2 p3 p4 p5 p6 x y z p q r : Value} (K : Blk w1 g t #[p1, p2, p3, p4, p5, p6]) (B : Below b w w1) (hg : b ≤ g) :
    Blk ((((((w1.setCell ⟨g, 0, none⟩ x).setCell ⟨g, 1, none⟩ y).setCell ⟨g, 2, none⟩ z).setCell ⟨g, 3, none⟩ p).setCell ⟨g, 4, none⟩ q).setCell ⟨g, 5, none⟩ r) g t #[x, y, z, p, q, r] ∧
    Below b w ((((((w1.setCell ⟨g, 0, none⟩ x).setCell ⟨g, 1, none⟩ y).setCell ⟨g, 2, none⟩ z).setCell ⟨g, 3, none⟩ p).setCell ⟨g, 4, none⟩ q).setCell ⟨g, 5, none⟩ r) := by
  refine ⟨?_, (((((B.setCell (p := ⟨g, 0, none⟩) hg x).setCell (p := ⟨g, 1, none⟩) hg y).setCell (p := ⟨g, 2, none⟩) hg z).setCell (p := ⟨g, 3, none⟩) hg p).setCell (p := ⟨g, 4, none⟩) hg q).setCell (p := ⟨g, 5, none⟩) hg r⟩
  have := (((((K.set_ 0 x).set_ 1 y).set_ 2 z).set_ 3 p).set_ 4 q).set_ 5 r
  simpa using this

set_option maxRecDepth 100000 in
set_option maxHeartbeats 16000000 in
theorem joined_any (A : Option Addr) (n c : Nat) (ps : List Pt) (w : World) (hP : PR w A n ps) (h0 : 0 < n) (hr : allB (timesP ps) = true) (hs : Small (timesP ps)) :
    Calls Try.prog 39 #[.slice A n c] w fun e w' => ∃ Am cm, e = .returned (.agg (agE Am n cm (tmaxP ps).1 (tmaxP ps).2.1 (tmaxP ps).2.2 (ordP ps) (freshP ps))) ∧
      w'.ownsRow w.heap.size 3 1 (.slice Am n cm) n (vs (idsP ps)) ∧ Below w.heap.size w w' := by
  obtain ⟨i0, hi0, hz0, hz1, hz2⟩ := info_parts9 int_info
  obtain ⟨i1, hi1, hy0, hy1, hy2⟩ := info_parts9 frac_info
  have HP := Lib.hid hP
  have HL := Lib.hid hP.len
  have n9 := hP.small
  obtain ⟨K0, K1, GB⟩ := blks2 w 47 47 #[.slice none 0 0, .int .u64 0, .int .u64 0, .int .u64 0, .int .u64 0, .bool false] #[.slice none 0 0, .int .u64 0, .int .u64 0, .int .u64 0, .int .u64 4611686018427387904, .bool true]
  clear hP
  go_enter Try.func39, Try.ntmps39
  go_wp2_with fail
  generalize hV : (w.alloc _).alloc _ = V at K0 K1 GB ⊢
  clear hV
  go_loopw [4, 12] (fun s i wr => ∃ (k : Nat) (Am : Option Addr) (cm : Nat), k ≤ n ∧ i = .int .i64 (k : Int) ∧ Hid (JS w wr ps k Am cm s)) (fun _ i _ => n - (intOf i).toNat)
  case atStart => exact ⟨0, none, 0, Nat.zero_le _, rfl, Lib.hid ⟨K1, World.ownsRow_nil _ _ _ _, World.ownsRow_nil _ _ _ _, by simp [Value.ownBlock], K0, GB⟩⟩
  case round =>
    obtain ⟨k, Am, cm, hk, rfl, HJ⟩ := hrel
    by_cases hlt : k < n
    · obtain ⟨⟨i, ⟨e, a, b, x⟩, o, f⟩, hx⟩ := elem_at (l := ps) (k := k) (by rw [HL.out]; exact hlt)
      obtain ⟨A2, cc, rfl, _, _⟩ := own_reads HJ.out.ts
      obtain ⟨ad, rfl, hb, c0, c1, c2, c3, c4, c5, c6, c7⟩ := (HP.out.below HJ.out.below).at_ hx
      have HO := Lib.hid (ordP_snoc hx)
      have HF := Lib.hid (freshP_snoc hx)
      have HI := Lib.hid (idsP_snoc hx)
      have HT := Lib.hid (timesP_snoc hx)
      obtain ⟨O, hO⟩ : ∃ O, ordP (ps.take k) = O := ⟨_, rfl⟩
      obtain ⟨F, hF⟩ : ∃ F, freshP (ps.take k) = F := ⟨_, rfl⟩
      rw [hO] at HO
      rw [hF] at HF
      obtain ⟨KB, MS, TS, NE, RS, BL⟩ := HJ.out
      rw [hO, hF] at KB
      have KD := Blk.new wr 99 #[.int .i64 i, .int .i64 e, .int .u64 (a : Int), .int .u64 (b : Int), .int .u64 (x : Int), .int .i64 i, .int .u64 (o : Int), .bool f]
      have d0 := KD.cell 0
      have d2 := KD.cell 2
      have d3 := KD.cell 3
      have d4 := KD.cell 4
      have d6 := KD.cell 6
      have d7 := KD.cell 7
      have z0 := (KB.alloc (.cells #[.int .i64 i, .int .i64 e, .int .u64 (a : Int), .int .u64 (b : Int), .int .u64 (x : Int), .int .i64 i, .int .u64 (o : Int), .bool f] 99)).cell 0
      have HS := Lib.hid (And.intro KB (And.intro KD (And.intro MS (And.intro TS (And.intro RS (And.intro BL NE))))))
      have HSZ : Hid (w.heap.size + 1 + 1 ≤ wr.heap.size) := Lib.hid (by have := KB.lt; omega)
      have j0 : (0 : Int) ≤ (k : Int) := by omega
      have j1 : (k : Int) < (n : Int) := by omega
      clear KB KD MS TS NE RS BL HJ hx hb hO hF
      go_wp2_with (first
        | (at_builtin
           refine wpList_append_any _ rfl (.tmp 17) (.tmp 21) 40 rfl (w.heap.size + 1 + 1) 3 i0 (.int .i64 0) 1 8 Try.underlying40 hi0 hz0 hz1 hz2 rfl (by decide) (.slice Am k cm) k (vs (idsP (ps.take k))) rfl ((HS.out.2.2.1.alloc (.cells #[.int .i64 i, .int .i64 e, .int .u64 (a : Int), .int .u64 (b : Int), .int .u64 (x : Int), .int .i64 i, .int .u64 (o : Int), .bool f] 99)).alloc _) _ (some ⟨wr.heap.size + 1, 0, none⟩) 1 1 (vs [i]) rfl (reads_int1 _ _ i (by simp)) (vs_ones _) (by simp only [maxLen]; omega) (by omega) (by have := HSZ.out; simp; omega) ?_
           intro v9 w9 own9 grow9 ne9
           obtain ⟨KB, KD, MS, TS, RS, BL, NE⟩ := HS.out
           have TS9 := own_other ((TS.alloc (.cells #[.int .i64 i, .int .i64 e, .int .u64 (a : Int), .int .u64 (b : Int), .int .u64 (x : Int), .int .i64 i, .int .u64 (o : Int), .bool f] 99)).alloc (.cells #[.int .i64 i] 3)) grow9 NE
           have NE9 := ne_other ((TS.alloc (.cells #[.int .i64 i, .int .i64 e, .int .u64 (a : Int), .int .u64 (b : Int), .int .u64 (x : Int), .int .i64 i, .int .u64 (o : Int), .bool f] 99)).alloc (.cells #[.int .i64 i] 3)) NE ne9
           have KB9 := ((KB.alloc (.cells #[.int .i64 i, .int .i64 e, .int .u64 (a : Int), .int .u64 (b : Int), .int .u64 (x : Int), .int .i64 i, .int .u64 (o : Int), .bool f] 99)).alloc (.cells #[.int .i64 i] 3)).own ((MS.alloc (.cells #[.int .i64 i, .int .i64 e, .int .u64 (a : Int), .int .u64 (b : Int), .int .u64 (x : Int), .int .i64 i, .int .u64 (o : Int), .bool f] 99)).alloc (.cells #[.int .i64 i] 3)) grow9 (by omega)
           have RS9 := ((RS.alloc (.cells #[.int .i64 i, .int .i64 e, .int .u64 (a : Int), .int .u64 (b : Int), .int .u64 (x : Int), .int .i64 i, .int .u64 (o : Int), .bool f] 99)).alloc (.cells #[.int .i64 i] 3)).own ((MS.alloc (.cells #[.int .i64 i, .int .i64 e, .int .u64 (a : Int), .int .u64 (b : Int), .int .u64 (x : Int), .int .i64 i, .int .u64 (o : Int), .bool f] 99)).alloc (.cells #[.int .i64 i] 3)) grow9 (by omega)
           have KD9 := (KD.alloc (.cells #[.int .i64 i] 3)).grown grow9 (fun he => by have := (MS.lt _ he.symm).2; omega)
           have B1 := BL.alloc BL.size (.cells #[.int .i64 i, .int .i64 e, .int .u64 (a : Int), .int .u64 (b : Int), .int .u64 (x : Int), .int .i64 i, .int .u64 (o : Int), .bool f] 99)
           have BL9 := (B1.alloc B1.size (.cells #[.int .i64 i] 3)).grown grow9 (B1.alloc B1.size (.cells #[.int .i64 i] 3)).size (fun g hg => by have := (MS.lt g hg).1; omega)
           have SZ9 := grow9.size
           rw [← vs_append, ← HI.out] at own9
           obtain ⟨A9, c9, rfl, _, _⟩ := own_reads own9
           have KBY : Blk (w9.setCell ⟨w.heap.size + 1, 0, none⟩ (.slice A9 (k + 1) c9)) (w.heap.size + 1) 47 #[.slice A9 (k + 1) c9, .int .u64 0, .int .u64 0, .int .u64 0, .int .u64 (O : Int), .bool F] := by have := KB9.set_ 0 (.slice A9 (k + 1) c9); simpa using this
           have KDY := KD9.far (p := ⟨w.heap.size + 1, 0, none⟩) (by have := HSZ.out; show wr.heap.size ≠ w.heap.size + 1; omega) (.slice A9 (k + 1) c9)
           have RSY := RS9.far (p := ⟨w.heap.size + 1, 0, none⟩) (by show w.heap.size ≠ w.heap.size + 1; omega) (.slice A9 (k + 1) c9)
           have TSY := own_set TS9 (g := w.heap.size + 1) (by omega) 0 (.slice A9 (k + 1) c9)
           have OWY := own_set own9 (g := w.heap.size + 1) (by omega) 0 (.slice A9 (k + 1) c9)
           have BLY := BL9.setCell (p := ⟨w.heap.size + 1, 0, none⟩) (by show w.heap.size ≤ w.heap.size + 1; omega) (.slice A9 (k + 1) c9)
           have k0 := KB9.cell 0
           have f0 := KB9.frozen 0
           have e2 := KDY.cell 2
           have e3 := KDY.cell 3
           have e4 := KDY.cell 4
           have HY := Lib.hid (And.intro KBY (And.intro KDY (And.intro OWY (And.intro TSY (And.intro RSY (And.intro BLY NE9))))))
           have HSY : Hid (w.heap.size + 1 + 1 ≤ w9.heap.size) := Lib.hid (by have := HSZ.out; simp at SZ9; omega)
           clear KB KD MS TS RS BL NE TS9 NE9 KB9 RS9 KD9 B1 BL9 SZ9 own9 grow9 ne9 KBY KDY RSY TSY OWY BLY)
        | (at_builtin
           refine wpList_append_any _ rfl (.tmp 24) (.tmp 28) 101 rfl (w.heap.size + 1 + 1) 45 i1 (.agg #[.int .u64 0, .int .u64 0, .int .u64 0]) 3 24 Try.underlying101 hi1 hy0 hy1 hy2 rfl (by decide) (.slice A2 k cc) k (fvs (timesP (ps.take k))) rfl (HY.out.2.2.2.1.alloc _) _ (some ⟨w9.heap.size, 0, none⟩) 1 1 (fvs [(a, b, x)]) rfl (reads_frac1 _ a b x (by simp)) (fvs_ones _) (by simp only [maxLen]; omega) (by omega) (by have := HSY.out; simp; omega) ?_
           intro v10 w10 own10 grow10 ne10
           obtain ⟨KB, KD, MS, TS, RS, BL, NE⟩ := HY.out
           have MS10 := own_other (MS.alloc (.cells #[.int .u64 (a : Int), .int .u64 (b : Int), .int .u64 (x : Int)] 45)) grow10 (fun j j' hj hj' => (NE j' j hj' hj).symm)
           have NE10 := ne_other (MS.alloc (.cells #[.int .u64 (a : Int), .int .u64 (b : Int), .int .u64 (x : Int)] 45)) (fun j j' hj hj' => (NE j' j hj' hj).symm) ne10
           have KB10 := (KB.alloc (.cells #[.int .u64 (a : Int), .int .u64 (b : Int), .int .u64 (x : Int)] 45)).own (TS.alloc (.cells #[.int .u64 (a : Int), .int .u64 (b : Int), .int .u64 (x : Int)] 45)) grow10 (by omega)
           have RS10 := (RS.alloc (.cells #[.int .u64 (a : Int), .int .u64 (b : Int), .int .u64 (x : Int)] 45)).own (TS.alloc (.cells #[.int .u64 (a : Int), .int .u64 (b : Int), .int .u64 (x : Int)] 45)) grow10 (by omega)
           have KD10 := (KD.alloc (.cells #[.int .u64 (a : Int), .int .u64 (b : Int), .int .u64 (x : Int)] 45)).grown grow10 (fun he => by have := (HS.out.2.2.2.1.lt _ he.symm).2; omega)
           have BL10 := (BL.alloc BL.size (.cells #[.int .u64 (a : Int), .int .u64 (b : Int), .int .u64 (x : Int)] 45)).grown grow10 (BL.alloc BL.size (.cells #[.int .u64 (a : Int), .int .u64 (b : Int), .int .u64 (x : Int)] 45)).size (fun g hg => by have := (TS.lt g hg).1; omega)
           rw [← fvs_append, ← HT.out] at own10
           have k4 := KB10.cell 4
           have f4 := KB10.frozen 4
           have k5 := KB10.cell 5
           have f5 := KB10.frozen 5
           have g6 := KD10.cell 6
           have g7 := KD10.cell 7
           have HZ := Lib.hid (And.intro KB10 (And.intro KD10 (And.intro MS10 (And.intro own10 (And.intro RS10 (And.intro BL10 NE10))))))
           clear KB KD MS TS RS BL NE MS10 NE10 KB10 RS10 KD10 BL10 own10 grow10 ne10))
      all_goals go_roundw
      all_goals first
        | refine ⟨k + 1, A9, c9, by omega, by go_num, Lib.hid (js_end _ HZ.out.1 HZ.out.2.2.1 HZ.out.2.2.2.1 HZ.out.2.2.2.2.1 HZ.out.2.2.2.2.2.1 HZ.out.2.2.2.2.2.2 HO.out (by rw [HF.out]; simp_all))⟩
        | (simp [intOf] <;> omega)
    · obtain rfl : k = n := by omega
      have HT : Hid (ps.take k = ps) := Lib.hid (List.take_of_length_le (by rw [HL.out]; exact Nat.le_refl _))
      obtain ⟨KB, MS, TS, NE, RS, BL⟩ := HJ.out
      rw [HT.out] at KB MS TS
      obtain ⟨A2, cc, rfl, _, _⟩ := own_reads TS
      have hlt2 : (timesP ps).length = k := by unfold timesP; rw [List.length_map, HL.out]
      obtain ⟨t1, t2, t3, hk⟩ := topI_at (by omega) hr
      have hik := (List.getElem?_eq_some_iff.1 hk).1
      have HMx : Hid (tmaxP ps = (t1, t2, t3)) := Lib.hid (by unfold tmaxP; rw [List.getD_eq_getElem?_getD, hk]; rfl)
      have HMo := Lib.hid (fun (u : World) (h : Reads u u.heap.size 3 A2 k (fvs (timesP ps))) => most_any A2 k cc (timesP ps) u hlt2 n9 hs h.frow (topI (timesP ps)) true (found_some (by omega) hr))
      generalize topI (timesP ps) = m at hk hik HMo
      rw [hlt2] at hik
      have j0 : (0 : Int) ≤ (m : Int) := by omega
      have j1 : (m : Int) < (k : Int) := by omega
      have HS := Lib.hid (And.intro KB (And.intro MS (And.intro TS (And.intro RS (And.intro BL NE)))))
      have HFR := Lib.hid ((Reads.of_own TS).frow)
      have HX := Lib.hid hk
      have HH0 := Lib.hid h0
      clear KB MS TS NE RS BL HJ hr hs hlt2 hk
      go_wp2_with fail
      refine (HMo.out _ (Reads.of_own HS.out.2.2.1)).mono ?_
      rintro e w5 ⟨rfl, h9⟩
      obtain ⟨KB, MS, TS, RS, BL, NE⟩ := HS.out
      replace KB := KB.below h9 KB.lt
      replace RS := RS.below h9 RS.lt
      replace MS := own_below MS h9
      obtain ⟨ad2, e2, _, c0, c1, c2⟩ := (HFR.out.below h9 (Nat.le_refl _)) m t1 t2 t3 HX.out
      replace BL := BL.trans (h9.mono BL.size)
      obtain rfl : A2 = some ad2 := e2
      have k0 := KB.cell 0
      have k1 := KB.cell 1
      have k2 := KB.cell 2
      have k3 := KB.cell 3
      have k4 := KB.cell 4
      have k5 := KB.cell 5
      have f1 := KB.frozen 1
      have f2 := KB.frozen 2
      have f3 := KB.frozen 3
      have r0 := RS.cell 0
      have g0 := RS.frozen 0
      have r1 := RS.cell 1
      have g1 := RS.frozen 1
      have r2 := RS.cell 2
      have g2 := RS.frozen 2
      have r3 := RS.cell 3
      have g3 := RS.frozen 3
      have r4 := RS.cell 4
      have g4 := RS.frozen 4
      have r5 := RS.cell 5
      have g5 := RS.frozen 5
      have HPF := Lib.hid (put6 (x := .slice Am k cm) (y := .int .u64 (t1 : Int)) (z := .int .u64 (t2 : Int)) (p := .int .u64 (t3 : Int)) (q := .int .u64 (ordP ps : Int)) (r := .bool (freshP ps)) ((((RS).far (p := ⟨w.heap.size + 1, 1, none⟩) (by show w.heap.size ≠ w.heap.size + 1; omega) (.int .u64 (t1 : Int))).far (p := ⟨w.heap.size + 1, 2, none⟩) (by show w.heap.size ≠ w.heap.size + 1; omega) (.int .u64 (t2 : Int))).far (p := ⟨w.heap.size + 1, 3, none⟩) (by show w.heap.size ≠ w.heap.size + 1; omega) (.int .u64 (t3 : Int))) ((((BL).setCell (p := ⟨w.heap.size + 1, 1, none⟩) (by show w.heap.size ≤ w.heap.size + 1; omega) (.int .u64 (t1 : Int))).setCell (p := ⟨w.heap.size + 1, 2, none⟩) (by show w.heap.size ≤ w.heap.size + 1; omega) (.int .u64 (t2 : Int))).setCell (p := ⟨w.heap.size + 1, 3, none⟩) (by show w.heap.size ≤ w.heap.size + 1; omega) (.int .u64 (t3 : Int))) (Nat.le_refl _))
      have HOW := Lib.hid (own_down (own_set (own_set (own_set (own_set (own_set (own_set (own_set (own_set (own_set (MS) (g := w.heap.size + 1) (by omega) 1 (.int .u64 (t1 : Int))) (g := w.heap.size + 1) (by omega) 2 (.int .u64 (t2 : Int))) (g := w.heap.size + 1) (by omega) 3 (.int .u64 (t3 : Int))) (g := w.heap.size) (by omega) 0 (.slice Am k cm)) (g := w.heap.size) (by omega) 1 (.int .u64 (t1 : Int))) (g := w.heap.size) (by omega) 2 (.int .u64 (t2 : Int))) (g := w.heap.size) (by omega) 3 (.int .u64 (t3 : Int))) (g := w.heap.size) (by omega) 4 (.int .u64 (ordP ps : Int))) (g := w.heap.size) (by omega) 5 (.bool (freshP ps))) (show w.heap.size ≤ w.heap.size + 1 + 1 by omega))
      clear h9 TS NE KB RS BL MS
      go_wp2_with fail
      exact bodyPost_ret (v := .agg #[.slice Am k cm, .int .u64 (t1 : Int), .int .u64 (t2 : Int), .int .u64 (t3 : Int), .int .u64 (ordP ps : Int), .bool (freshP ps)]) (results_cell_row Try.results39 _ _ _ _ _ _ _ rfl HPF.out.1 Try.underlying47 rfl (by kernel_rfl)) rfl ⟨Am, cm, by rw [HMx.out]; rfl, HOW.out, HPF.out.2⟩

end Go.Proofs.Ytniilfcbiliegaa
