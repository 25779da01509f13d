/-
  The contract of the document's Decode. No statement is proved here.
-/
import Derived.Test.YtnckfgnhlnichaaVh
namespace Go.Proofs.Ytnckfgnhlnichaa
open Go.RowKit

theorem reads_behind1 {w : World} {B n c : Nat} {ad : Addr} {l : List Nat} (h : Reads w B 1 (some ad) n (ub l)) (hC : n ≤ c) : Reads w B 1 (if c = 1 then some ad else some (⟨ad.block, ad.off + 1, none⟩ : Addr)) (n - 1) (ub (l.drop 1)) := by
  have hl := ubytes_len h
  refine ⟨by rw [length_ub, List.length_drop, hl]; omega, fun h0 => ?_⟩
  obtain ⟨ad', e, hb, hc⟩ := h.2 (by omega)
  obtain rfl := Option.some.inj e
  rw [if_neg (by omega)]
  refine ⟨ad.add 1, rfl, by rw [block_of_add]; exact hb, fun i u hu => ?_⟩
  rw [add_of_add]
  refine hc _ u ?_
  unfold ub at hu ⊢
  rw [List.map_drop, List.getElem?_drop] at hu
  exact hu
theorem own_reads' {w : World} {base n c size : Nat} {e : TypeId} {A : Option Addr} {xs : List Value} (h : w.ownsRow base e size (.slice A n c) n xs) : Reads w w.heap.size size A n xs := Reads.of_own h
/-- the pools of bytes -/
def decodeP (bs : List Nat) : List Nat × Int :=
  if bs.length < 1 ∨ bs.length < 1 + bs.getD 0 0 then ([], 7)
  else if bs.length ≠ 1 + bs.getD 0 0 ∨ rightP (bs.drop 1) = false then ([], 180)
  else (bs.drop 1, 0)

set_option maxRecDepth 100000 in
set_option maxHeartbeats 8000000 in
theorem rdecodeP_any (A : Option Addr) (n c : Nat) (bs : List Nat) (w : World) (hby : ∀ x ∈ bs, x < 256) (hR : Reads w w.heap.size 1 A n (ub bs)) (hnc : n ≤ c) (hn : n ≤ 400) :
    Calls Try.prog 28 #[.slice A n c] w (GivesP2 (decodeP bs) w) := by
  obtain ⟨i0, hi0, hz0, hz1, hz2⟩ := info_parts8 cpus_info
  have hl := ubytes_len hR
  obtain ⟨K, B⟩ : Blk (w.alloc (.cells #[.slice none 0 0] 24)) w.heap.size 24 #[.slice none 0 0] ∧ Below w.heap.size w (w.alloc (.cells #[.slice none 0 0] 24)) := ⟨Blk.new _ _ _, (Below.refl _ _).alloc (Nat.le_refl _) _⟩
  by_cases h1 : n < 1
  · have HV : Hid (decodeP bs = ([], 7)) := Lib.hid (by unfold decodeP; rw [if_pos (.inl (by omega))])
    have e1 : (n : Int) < 1 := by omega
    have HK := Lib.hid (And.intro K B)
    clear hl hby hR hn h1 K B hi0 hz0 hz1 hz2
    go_enter Try.func28, Try.ntmps28
    go_wp2_with fail
    rw [HV.out]
    exact bodyPost_ret (v := .tuple #[.agg #[.slice none 0 0], .int .i64 7]) (results_pools2 Try.results28 _ _ _ _ _ _ rfl HK.out.1 Try.underlying24 rfl (by kernel_rfl)) rfl (GivesP2.none_ HK.out.2)
  · obtain ⟨ad, z, rfl, hb, hb0, hc0⟩ := ubyte_at hR (k := 0) (by omega)
    have hg0 : bs.getD 0 0 = z := getD_at hb0
    have z8 : z < 256 := hby z (List.mem_of_getElem? hb0)
    have hc0' : w.cell? ad = some (.int .u8 (z : Int)) := hc0
    have c0 : (w.alloc (.cells #[.slice none 0 0] 24)).cell? ad = some (.int .u8 (z : Int)) := (World.cell?_alloc_lt w _ ad hb).trans hc0'
    have e1 : ¬ (n : Int) < 1 := by omega
    have n0 : 0 < n := by omega
    have wz : IntKind.i64.wrap (z : Int) = (z : Int) := by simp [IntKind.wrap, IntKind.bits, IntKind.signed]; omega
    by_cases h2 : n < 1 + z
    · have HV : Hid (decodeP bs = ([], 7)) := Lib.hid (by unfold decodeP; rw [if_pos (.inr (by rw [hg0]; omega))])
      have q : decide ((n : Int) < 1 + (z : Int)) = true := decide_eq_true (by omega)
      have HK := Lib.hid (And.intro K B)
      clear hl hby hR h1 K B hi0 hz0 hz1 hz2 hb0 hg0 h2 hc0 hc0'
      go_enter Try.func28, Try.ntmps28
      go_wp2_with fail
      rw [HV.out]
      exact bodyPost_ret (v := .tuple #[.agg #[.slice none 0 0], .int .i64 7]) (results_pools2 Try.results28 _ _ _ _ _ _ rfl HK.out.1 Try.underlying24 rfl (by kernel_rfl)) rfl (GivesP2.none_ HK.out.2)
    · have q : decide ((n : Int) < 1 + (z : Int)) = false := decide_eq_false (by omega)
      have HV : Hid (decodeP bs = if n ≠ 1 + z ∨ rightP (bs.drop 1) = false then ([], 180) else (bs.drop 1, 0)) := Lib.hid (by
        unfold decodeP
        rw [if_neg (by rw [hg0]; omega), hg0, hl])
      obtain ⟨rest, hrest⟩ : ∃ r, (if c = 1 then some ad else some (⟨ad.block, ad.off + 1, none⟩ : Addr)) = r := ⟨_, rfl⟩
      have hRr := reads_behind1 hR hnc
      rw [hrest] at hRr
      obtain ⟨m, hm⟩ : ∃ m, n - 1 = m := ⟨_, rfl⟩
      rw [hm] at hRr
      have hml : (bs.drop 1).length = m := by rw [List.length_drop, hl]; exact hm
      have hbyd : ∀ x ∈ bs.drop 1, x < 256 := fun x hx => hby x (List.drop_subset 1 bs hx)
      generalize bs.drop 1 = L at *
      have HRr := Lib.hid hRr
      have HBy := Lib.hid hbyd
      have HL := Lib.hid hml
      have HC0 := Lib.hid (fun (u : World) (h : Below w.heap.size w u) => show u.cell? ad = some (.int .u8 (z : Int)) from (h.cell hb).trans hc0')
      have HK := Lib.hid (And.intro (K.alloc (.cells #[.slice none 0 0] 24)) (And.intro (Blk.new (w.alloc (.cells #[.slice none 0 0] 24)) 24 #[.slice none 0 0]) (B.alloc B.size (.cells #[.slice none 0 0] 24))))
      have c1 : (1 : Int) ≤ (n : Int) := by omega
      have c2 : (n : Int) ≤ (c : Int) := by omega
      have m1 : (n : Int) - 1 = (m : Int) := by omega
      have m9 : m ≤ 400 := by omega
      have cz := HC0.out _ HK.out.2.2
      clear hl hby hR h1 K B hb0 hg0 h2 hc0 hc0' hRr hbyd hml
      go_enter Try.func28, Try.ntmps28
      go_wp2_with fail
      clear c0 cz
      go_loopw [24] (fun i wr => ∃ (k : Nat) (v : Value), k ≤ m ∧ i = .int .i64 (k : Int) ∧ Hid (wr.ownsRow (w.heap.size + 1 + 1) 29 1 v k (us (L.take k))) ∧ Blk wr (w.heap.size + 1) 24 #[v] ∧ Blk wr w.heap.size 24 #[.slice none 0 0] ∧ Below w.heap.size w wr) (fun i _ => m - (intOf i).toNat)
      case atStart => exact ⟨0, .slice none 0 0, by omega, rfl, Lib.hid (World.ownsRow_nil _ _ _ _), by simpa using HK.out.2.1, HK.out.1, HK.out.2.2⟩
      case round =>
        obtain ⟨k, v, hk, rfl, HO, K2, K1, Br⟩ := hrel
        obtain ⟨A2, c2', rfl, _, _⟩ := own_reads HO.out
        have k2 := K2.cell 0
        have f2 := K2.frozen 0
        by_cases hlt : k < m
        · obtain ⟨ad', x, rfl, hb', hxl, hx⟩ := ubyte_at (HRr.out.below Br) hlt
          have x8 := HBy.out x (List.mem_of_getElem? hxl)
          have wx : IntKind.u32.wrap (x : Int) = (x : Int) := by rw [IntKind.wrap_u32']; omega
          have HJ : Hid (L.take (k + 1) = L.take k ++ [x]) := Lib.hid (by rw [List.take_add_one, hxl]; rfl)
          have HS := Lib.hid (And.intro K2 (And.intro K1 Br))
          have HSZ : Hid (w.heap.size + 1 + 1 ≤ wr.heap.size) := Lib.hid (by have := K2.lt; omega)
          have k9 : k < 400 := by omega
          clear hxl x8 K2 K1 Br
          go_wp2_with (
            at_builtin
            refine wpList_append_any _ rfl (.tmp 29) (.tmp 32) 22 rfl (w.heap.size + 1 + 1) 29 i0 (.int .u32 0) 1 4 Try.underlying22 hi0 hz0 hz1 hz2 rfl (by decide) (.slice A2 k c2') k (us (L.take k)) rfl (HO.out.alloc _) _ (some ⟨wr.heap.size, 0, none⟩) 1 1 (us [x]) rfl (reads_u1' _ 29 x rfl) (us_ones _) (by simp only [maxLen]; omega) (by omega) (by have := HSZ.out; unfold World.alloc; simp; omega) ?_
            intro v9 w9 own9 grow9 _
            rw [← us_append] at own9
            obtain ⟨A9, c9, rfl, hc9, r9⟩ := own_reads own9
            have K29 := (HS.out.1.alloc (.cells #[.int .u32 ((x : Nat) : Int)] 29)).grown grow9 (fun e => by have := (HO.out.lt _ e.symm).1; omega)
            have K19 := (HS.out.2.1.alloc (.cells #[.int .u32 ((x : Nat) : Int)] 29)).grown grow9 (fun e => by have := (HO.out.lt _ e.symm).1; omega)
            have B9' := HS.out.2.2.alloc HS.out.2.2.size (.cells #[.int .u32 ((x : Nat) : Int)] 29)
            have B9 : Below w.heap.size w w9 := B9'.grown grow9 B9'.size (fun g' hg' => by have := (HO.out.lt _ hg').1; omega)
            have HT := Lib.hid (And.intro (own_set own9 (g := w.heap.size + 1) (by omega) 0 (.slice A9 (k + 1) c9)) (And.intro (put1 (x := .slice A9 (k + 1) c9) K29 B9 (by omega)) (K19.far (p := ⟨w.heap.size + 1, 0, none⟩) (by simp) (.slice A9 (k + 1) c9))))
            have t0 := K29.cell 0
            have t1 := K29.frozen 0
            clear own9 grow9 hc9 r9 K29 K19 B9' B9)
          go_wp2_with fail
          go_roundw
          case rel => exact ⟨k + 1, .slice A9 (k + 1) c9, by omega, by go_num, Lib.hid (by rw [HJ.out]; exact HT.out.1), HT.out.2.1.1, HT.out.2.2, HT.out.2.1.2⟩
          case measure => simp [intOf] <;> omega
        · obtain rfl : k = m := by omega
          have HOw : Hid (wr.ownsRow (w.heap.size + 1 + 1) 29 1 (.slice A2 k c2') k (us L)) := Lib.hid (by
            have := HO.out
            rwa [show L.take k = L by rw [← HL.out]; exact List.take_length] at this)
          have k1 := K1.cell 0
          have f1 := K1.frozen 0
          have cz := HC0.out _ Br
          by_cases hne : n = 1 + z
          · have g1 : ((n : Int) != 1 + (z : Int)) = false := by simp; omega
            have HRi := Lib.hid (rrightP_any A2 k c2' L wr (own_reads' HOw.out) (by omega))
            cases hr : rightP L with
            | true =>
              rw [hr] at HRi
              have HV2 : Hid (decodeP bs = (L, 0)) := Lib.hid (by rw [HV.out, if_neg (by rw [hr]; simp; omega)])
              clear hne hr
              go_wp2_with fail
              refine HRi.out.mono ?_
              rintro e w9 ⟨rfl, h9⟩
              have K29 := K2.below h9 K2.lt
              have K19 := K1.below h9 K1.lt
              have B9 := Br.trans (h9.mono Br.size)
              have HKF := Lib.hid (And.intro (put1 (x := .slice A2 k c2') K19 B9 (by omega)) (own_set (own_below HOw.out h9) (g := w.heap.size) (by omega) 0 (.slice A2 k c2')))
              have k2 := K29.cell 0
              have k1 := K19.cell 0
              have f1 := K19.frozen 0
              clear h9 K29 K19 B9
              go_wp2_with fail
              rw [HV2.out]
              exact bodyPost_ret (v := .tuple #[.agg #[.slice A2 k c2'], .int .i64 0]) (results_pools2 Try.results28 _ _ _ _ _ _ rfl HKF.out.1.1 Try.underlying24 rfl (by kernel_rfl)) rfl ⟨A2, c2', by simp only [HL.out], by simp only [HL.out]; exact own_down HKF.out.2 (by omega), HKF.out.1.2⟩
            | false =>
              rw [hr] at HRi
              have HV2 : Hid (decodeP bs = ([], 180)) := Lib.hid (by rw [HV.out, if_pos (.inr hr)])
              clear hne hr
              go_wp2_with fail
              refine HRi.out.mono ?_
              rintro e w9 ⟨rfl, h9⟩
              have K19 := K1.below h9 K1.lt
              have B9 := Br.trans (h9.mono Br.size)
              have HKF := Lib.hid (put1 (x := .slice none 0 0) K19 B9 (by omega))
              have k1 := K19.cell 0
              have f1 := K19.frozen 0
              clear h9 K19 B9
              go_wp2_with fail
              rw [HV2.out]
              exact bodyPost_ret (v := .tuple #[.agg #[.slice none 0 0], .int .i64 180]) (results_pools2 Try.results28 _ _ _ _ _ _ rfl HKF.out.1 Try.underlying24 rfl (by kernel_rfl)) rfl (GivesP2.none_ HKF.out.2)
          · have g1 : ((n : Int) != 1 + (z : Int)) = true := by simp; omega
            have HV2 : Hid (decodeP bs = ([], 180)) := Lib.hid (by rw [HV.out, if_pos (.inl hne)])
            have HKF := Lib.hid (put1 (x := .slice none 0 0) K1 Br (by omega))
            clear hne K1 K2 Br
            go_wp2_with fail
            rw [HV2.out]
            exact bodyPost_ret (v := .tuple #[.agg #[.slice none 0 0], .int .i64 180]) (results_pools2 Try.results28 _ _ _ _ _ _ rfl HKF.out.1 Try.underlying24 rfl (by kernel_rfl)) rfl (GivesP2.none_ HKF.out.2)

end Go.Proofs.Ytnckfgnhlnichaa
