/-
  The landed vtime: Join; the statements' over, short, the document's Copy; wakes. No statement is proved here.
-/
import Derived.Test.YtfgabmelmopgdaaVk
namespace Go.Proofs.Ytfgabmelmopgdaa
open Go.RowKit

def joinQS (qs : List Rn) (r : Rn) (boost : Nat) : List Rn × Int := addQ qs (decide (boost ≤ 10000000)) r boost

set_option maxRecDepth 100000 in
set_option maxHeartbeats 4000000 in
theorem join_any (A : Option Addr) (n c : Nat) (qs : List Rn) (i e : Int) (h l x boost : Nat) (w : World) (hG : QR w A n c qs) (hu : UR (i, e, h, l, x)) :
    Calls Try.prog 21 #[.agg #[.slice A n c], .agg #[.int .i64 i, .int .i64 e, .int .u64 (h : Int), .int .u64 (l : Int), .int .u64 (x : Int)], .int .u64 (boost : Int)] w (GivesQ (joinQS qs (i, e, h, l, x) boost) w) := by
  obtain ⟨K0, K1, K2, K, GB⟩ := blks4 w 26 40 32 26 #[.slice A n c] #[.int .i64 i, .int .i64 e, .int .u64 (h : Int), .int .u64 (l : Int), .int .u64 (x : Int)] #[.int .u64 (boost : Int)] #[.slice none 0 0]
  have HAd := Lib.hid (fun (u : World) (hB : Below w.heap.size w u) (K0 : Blk u w.heap.size 26 #[.slice A n c]) (K1 : Blk u (w.heap.size + 1) 40 #[.int .i64 i, .int .i64 e, .int .u64 (h : Int), .int .u64 (l : Int), .int .u64 (x : Int)]) (K2 : Blk u (w.heap.size + 1 + 1) 32 #[.int .u64 (boost : Int)]) => added_any w.heap.size (w.heap.size + 1) (w.heap.size + 1 + 1) A n c qs (decide (boost ≤ 10000000)) boost i e h l x u (hG.below hB) hu (fun hf => of_decide_eq_true hf) K0 K1 K2)
  obtain ⟨⟨L, E⟩, hR⟩ : ∃ R, joinQS qs (i, e, h, l, x) boost = R := ⟨_, rfl⟩
  have hR' : addQ qs (decide (boost ≤ 10000000)) (i, e, h, l, x) boost = (L, E) := hR
  rw [hR'] at HAd
  rw [hR]
  obtain ⟨bb, hbb⟩ : ∃ b, decide (boost ≤ 10000000) = b := ⟨_, rfl⟩
  have hbi : decide ((boost : Int) ≤ 10000000) = bb := by rw [← hbb]; exact decide_eq_decide.2 (by omega)
  rw [hbb] at HAd
  have hw1 : w.heap.size + 1 + 1 + 1 < ((((w.alloc (.cells #[.slice A n c] 26)).alloc (.cells #[.int .i64 i, .int .i64 e, .int .u64 (h : Int), .int .u64 (l : Int), .int .u64 (x : Int)] 40)).alloc (.cells #[.int .u64 (boost : Int)] 32)).alloc (.cells #[.slice none 0 0] 26)).heap.size := K.lt
  have HAx := Lib.hid (HAd.out _ GB K0 K1 K2)
  clear hR hR' hbb hG hu HAd
  go_enter Try.func21, Try.ntmps21
  have zK00 := K0.cell 0
  have zK10 := K1.cell 0
  have zK11 := K1.cell 1
  have zK12 := K1.cell 2
  have zK13 := K1.cell 3
  have zK14 := K1.cell 4
  have zK20 := K2.cell 0
  go_wp2_with fail
  refine HAx.out.mono ?_
  rintro r w2 ⟨A3, n3, c3, rfl, hl3, own3, h9⟩
  clear zK00 zK10 zK11 zK12 zK13 zK14 zK20
  replace K := K.below h9 K.lt
  replace K0 := K0.below h9 K0.lt
  replace K1 := K1.below h9 K1.lt
  replace K2 := K2.below h9 K2.lt
  replace GB := GB.trans (h9.mono GB.size)
  clear h9 K0 K1 K2
  have d0 := K.cell 0
  have f0 := K.frozen 0
  have HP := Lib.hid (put1 (x := .slice A3 n3 c3) K GB (by omega))
  clear K GB
  have HO := Lib.hid (And.intro hl3 (own_down (own_set own3 (g := w.heap.size + 1 + 1 + 1) hw1 0 (.slice A3 n3 c3)) (show w.heap.size ≤ _ from Nat.le_of_lt (by omega))))
  clear hl3 own3 hw1
  go_wp2_with fail
  exact bodyPost_ret (v := .tuple #[.agg #[.slice A3 n3 c3], .int .i64 E]) (results_cell_row_tmp Try.results21 _ _ _ _ _ _ rfl HP.out.1 Try.underlying26 rfl (by kernel_rfl)) rfl ⟨_, _, _, rfl, HO.out.1, HO.out.2, HP.out.2⟩

set_option maxRecDepth 100000 in
set_option maxHeartbeats 1000000 in
theorem over_lit (a b : Nat) (w : World) : Calls Try.prog 32 #[.int .u64 (a : Int), .int .u64 (b : Int)] w (Said (.agg #[.int .u64 0, .int .u64 (a : Int), .int .u64 (b : Int)]) w) := by
  have K := Blk.new w 36 #[.int .u64 0, .int .u64 (a : Int), .int .u64 (b : Int)]
  have GB := (Below.refl w.heap.size w).alloc (Nat.le_refl _) (.cells #[.int .u64 0, .int .u64 (a : Int), .int .u64 (b : Int)] 36)
  have HP := Lib.hid (And.intro K GB)
  clear K GB
  go_enter Try.func32, Try.ntmps32
  go_wp2_with fail
  exact bodyPost_ret (v := .agg #[.int .u64 0, .int .u64 (a : Int), .int .u64 (b : Int)]) (results_cell_row Try.results32 _ _ _ _ _ _ _ rfl HP.out.1 Try.underlying36 rfl (by kernel_rfl)) rfl ⟨rfl, HP.out.2⟩

/-- a queue in memory of its own -/
def Copied (n : Nat) (qs : List Rn) (w : World) (e : Ending) (w' : World) : Prop := ∃ A c, e = .returned (.agg #[.slice A n c]) ∧ w'.ownsRow w.heap.size 40 5 (.slice A n c) n (flat rv qs) ∧ Below w.heap.size w w'

set_option maxRecDepth 100000 in
set_option maxHeartbeats 4000000 in
theorem copy_any (A : Option Addr) (n c : Nat) (qs : List Rn) (w : World) (hR : Reads w w.heap.size 5 A n (flat rv qs)) (hn : n ≤ 1000) : Calls Try.prog 33 #[.agg #[.slice A n c]] w (Copied n qs w) := by
  obtain ⟨i0, hi0, hz0, hz1, hz2⟩ := info_parts9 rn_info
  obtain ⟨K0, K, GB⟩ := blks2 w 26 26 #[.slice A n c] #[.slice none 0 0]
  have hbz := GB.size
  have HRr := Lib.hid (((hR.below GB).more GB.size).alloc (Nat.le_refl _) (.cells #[] 40))
  have k0 := (K0.alloc (.cells #[] 40)).cell 0
  have HS := Lib.hid (And.intro (K.alloc (.cells #[] 40)) (And.intro (GB.alloc hbz (.cells #[] 40)) hbz))
  clear hR K0 K GB hbz
  go_enter Try.func33, Try.ntmps33
  go_wp2_with (
    at_builtin
    refine wpList_append_any _ rfl (.tmp 3) (.tmp 5) 23 rfl (w.heap.size + 1 + 1) 40 i0 (.agg #[.int .i64 0, .int .i64 0, .int .u64 0, .int .u64 0, .int .u64 0]) 5 40 Try.underlying23 hi0 hz0 hz1 hz2 rfl (by decide) (.slice (some ⟨w.heap.size + 1 + 1, 0, none⟩) 0 0) 0 [] rfl (by simpa using World.ownsRow_made ((w.alloc (.cells #[.slice A n c] 26)).alloc (.cells #[.slice none 0 0] 26)) #[] 0 (Nat.le_refl _) (by simp [maxLen]) (by simp)) _ A n c (flat rv qs) rfl HRr.out (rv_ones _) (by simp only [maxLen]; omega) (by omega) (by simp) ?_
    intro v9 w9 own9 grow9 hw9
    rw [List.nil_append, Nat.zero_add] at own9
    obtain ⟨A9, c9, rfl, _, _⟩ := own_reads own9
    have hb9 : ∀ k, (Value.slice (some ⟨w.heap.size + 1 + 1, 0, none⟩) 0 0).ownBlock = some k → w.heap.size + 1 + 1 ≤ k := fun k hk => by simp [Value.ownBlock] at hk; omega
    have KK := HS.out.1.grown grow9 (fun hk => by have := hb9 _ hk.symm; omega)
    have GG := HS.out.2.1.grown grow9 (by simp; omega) (fun g hg => by have := hb9 g hg; omega)
    have d0 := KK.cell 0
    have f0 := KK.frozen 0
    have HP := Lib.hid (put1 (x := .slice A9 n c9) KK GG (by omega))
    have HO := Lib.hid (own_down (own_set own9 (g := w.heap.size + 1) (by omega) 0 (.slice A9 n c9)) (show w.heap.size ≤ w.heap.size + 1 + 1 by omega))
    clear own9 grow9 hw9 KK GG hb9)
  exact bodyPost_ret (v := .agg #[.slice A9 n c9]) (results_cell_row Try.results33 _ _ _ _ _ _ _ rfl HP.out.1 Try.underlying26 rfl (by kernel_rfl)) rfl ⟨_, _, rfl, HO.out, HP.out.2⟩

set_option maxRecDepth 100000 in
set_option maxHeartbeats 4000000 in
theorem short_any (A : Option Addr) (n c : Nat) (qs : List Rn) (w : World) (hR : Reads w w.heap.size 5 A n (flat rv qs)) (hn : n ≤ c) : Calls Try.prog 10 #[.agg #[.slice A n c]] w (Copied (min n 17) (qs.take 17) w) := by
  obtain ⟨K0, K, GB⟩ := blks2 w 26 26 #[.slice A n c] #[.slice none 0 0]
  have hlen := rns_len hR
  have hcut : Reads w w.heap.size 5 A (min n 17) (flat rv (qs.take 17)) := by
    refine ⟨by rw [length_flat rv length_rv, List.length_take, hlen, Nat.min_comm], fun h0 => ?_⟩
    obtain ⟨ad, e, hb, hc⟩ := hR.2 (by omega)
    refine ⟨ad, e, hb, fun j v hj => hc j v ?_⟩
    rw [flat_take_ length_rv, List.getElem?_take] at hj
    split at hj
    · exact hj
    · cases hj
  obtain ⟨m, hm⟩ : ∃ m, min n 17 = m := ⟨_, rfl⟩
  rw [hm] at hcut ⊢
  have HCo := Lib.hid (fun (u : World) (hB : Below w.heap.size w u) (c' : Nat) => copy_any A m c' (qs.take 17) u ((hcut.below hB).more hB.size) (by omega))
  have hmi : min (n : Int) 17 = (m : Int) := by rw [← hm]; omega
  have m0 : (0 : Int) ≤ (m : Int) := by omega
  have m1 : (m : Int) ≤ (c : Int) := by omega
  have z0 := K0.cell 0
  clear hcut hR hlen hm
  go_enter Try.func10, Try.ntmps10
  go_wp2_with fail
  refine (HCo.out _ GB _).mono ?_
  rintro r w2 ⟨A9, c9, rfl, own9, h9⟩
  have hz := GB.size
  have hz1 : w.heap.size + 1 < ((w.alloc (.cells #[.slice A n c] 26)).alloc (.cells #[.slice none 0 0] 26)).heap.size := K.lt
  replace K := K.below h9 K.lt
  replace GB := GB.trans (h9.mono hz)
  clear h9 z0 K0
  have d0 := K.cell 0
  have f0 := K.frozen 0
  have HP := Lib.hid (put1 (x := .slice A9 m c9) K GB (by omega))
  have HO := Lib.hid (own_down (own_set own9 (g := w.heap.size + 1) hz1 0 (.slice A9 m c9)) hz)
  clear K GB own9 hz hz1
  go_wp2_with fail
  exact bodyPost_ret (v := .agg #[.slice A9 m c9]) (results_cell_row Try.results10 _ _ _ _ _ _ _ rfl HP.out.1 Try.underlying26 rfl (by kernel_rfl)) rfl ⟨_, _, rfl, HO.out, HP.out.2⟩

end Go.Proofs.Ytfgabmelmopgdaa
