/-
  The contracts of the statements' is, and of the document's Free. No statement is proved here.
-/
import Derived.Test.YtknimnopopnbhaaDe
namespace Go.Proofs.Ytknimnopopnbhaa
open Go.RowKit

set_option maxRecDepth 100000 in
set_option maxHeartbeats 1000000 in
/-- what is refused -/
theorem is_no (A : Option Addr) (c : Nat) (B : Option Addr) (d : Nat) (E : Int) (A' : Option Addr) (n' c' : Nat) (B' : Option Addr) (m' d' : Nat) (w : World) (hE : E ≠ 0) :
    Calls Try.prog 19 #[.agg #[.slice A 0 c, .slice B 0 d], .int .i64 E, .agg #[.slice A' n' c', .slice B' m' d'], .int .i64 E] w (Said (.bool true) w) := by
  obtain ⟨K1, K2, B0⟩ := blks2 w 25 25 #[.slice A 0 c, .slice B 0 d] #[.slice A' n' c', .slice B' m' d']
  have HB := Lib.hid B0
  have e0 : (E == 0) = false := by simp [hE]
  clear K1 K2 B0 hE
  go_enter Try.func19, Try.ntmps19
  go_wp2
  go_ret
  exact ⟨rfl, HB.out⟩

set_option maxRecDepth 100000 in
set_option maxHeartbeats 1000000 in
/-- what is done -/
theorem is_yes (A : Option Addr) (n c : Nat) (ds : List Dom) (B : Option Addr) (m d : Nat) (us : List Vc) (A' : Option Addr) (n' c' : Nat) (B' : Option Addr) (m' d' : Nat) (w : World) (hG : GR w A n c ds B m d us) (hG' : GR w A' n' c' ds B' m' d' us) :
    Calls Try.prog 19 #[.agg #[.slice A n c, .slice B m d], .int .i64 0, .agg #[.slice A' n' c', .slice B' m' d'], .int .i64 0] w (Said (.bool true) w) := by
  have HS := Lib.hid (fun (u : World) (h : Below w.heap.size w u) => rsameG_any A n c ds B m d us A' n' c' ds B' m' d' us u (hG.below h) (hG'.below h))
  rw [sameG_self] at HS
  obtain ⟨K1, K2, B0⟩ := blks2 w 25 25 #[.slice A n c, .slice B m d] #[.slice A' n' c', .slice B' m' d']
  have HB := Lib.hid B0
  clear K1 K2 B0 hG hG'
  go_enter Try.func19, Try.ntmps19
  go_wp2_with fail
  refine (HS.out _ HB.out).mono ?_
  rintro e w2 ⟨rfl, h2⟩
  have B2 := HB.out.trans (h2.mono HB.out.size)
  go_wp2
  go_ret
  exact ⟨rfl, B2⟩

set_option maxRecDepth 100000 in
set_option maxHeartbeats 2000000 in
theorem rfree_any (A : Option Addr) (n c : Nat) (ds : List Dom) (B : Option Addr) (m d : Nat) (us : List Vc) (w : World) (hG : GR w A n c ds B m d us) :
    Calls Try.prog 27 #[.agg #[.slice A n c, .slice B m d]] w (Said (.int .i64 ((freeK us 16 : Nat) : Int)) w) := by
  have HVc := Lib.hid (fun (id : Int) (u : World) (h : Below w.heap.size w u) => rvc_any A n c ds B m d us id u (hG.below h))
  have HK := Lib.hid (box1 w 25 #[.slice A n c, .slice B m d])
  clear hG
  go_enter Try.func27, Try.ntmps27
  go_wp2_with fail
  go_loopw [3, 4] (fun q i wr => ∃ k f : Nat, k ≤ 16 ∧ i = .int .i64 (k : Int) ∧ q = .int .i64 (f : Int) ∧ Hid (f = freeK us k) ∧ Blk wr w.heap.size 25 #[.slice A n c, .slice B m d] ∧ Below w.heap.size w wr) (fun _ i _ => 16 - (intOf i).toNat)
  case atStart => exact ⟨0, 1, by omega, rfl, rfl, Lib.hid rfl, HK.out.1, HK.out.2⟩
  case round =>
    obtain ⟨k, f, hk, rfl, rfl, Hf, K, hB⟩ := hrel
    by_cases hlt : k < 16
    · have k0 := K.cell 0
      have k1 := K.cell 1
      have l1 : decide ((k : Int) < 16) = true := decide_eq_true (by omega)
      have f9 : f ≤ 20 := by have := freeK_le us k; have := Hf.out; omega
      have HVs := Lib.hid (HVc.out (f : Int))
      obtain ⟨⟨⟨a, b, e, g⟩, th⟩, hdv⟩ : ∃ r, vcV us (f : Int) = r := ⟨_, rfl⟩
      rw [hdv] at HVs
      cases th with
      | true =>
        have HF : Hid (freeK us (k + 1) = f + 1) := Lib.hid (by
          show (if (vcV us (freeK us k : Nat)).2 = true then freeK us k + 1 else freeK us k) = f + 1
          rw [← Hf.out, hdv, if_pos rfl])
        clear hdv
        go_wp2_with fail
        refine (HVs.out _ hB).mono ?_
        rintro e1 w1 ⟨rfl, h9⟩
        have B1 := hB.trans (h9.mono hB.size)
        have K1 := K.below h9 K.lt
        have HT := Lib.hid (And.intro (K1.alloc (.cells #[.int .i64 a, .int .i64 b, .int .u32 (e : Int), .int .u32 (g : Int)] 50)) (B1.alloc B1.size (.cells #[.int .i64 a, .int .i64 b, .int .u32 (e : Int), .int .u32 (g : Int)] 50)))
        clear h9 B1 K1 K hB k0 k1
        go_wp2
        go_roundw
        case rel => exact ⟨k + 1, f + 1, by omega, by go_num, by go_num, Lib.hid HF.out.symm, HT.out.1, HT.out.2⟩
        case measure => simp [intOf] <;> omega
      | false =>
        have HF : Hid (freeK us (k + 1) = f) := Lib.hid (by
          show (if (vcV us (freeK us k : Nat)).2 = true then freeK us k + 1 else freeK us k) = f
          rw [← Hf.out, hdv, if_neg (by simp)])
        clear hdv
        go_wp2_with fail
        refine (HVs.out _ hB).mono ?_
        rintro e1 w1 ⟨rfl, h9⟩
        have B1 := hB.trans (h9.mono hB.size)
        have K1 := K.below h9 K.lt
        have HT := Lib.hid (And.intro (K1.alloc (.cells #[.int .i64 a, .int .i64 b, .int .u32 (e : Int), .int .u32 (g : Int)] 50)) (B1.alloc B1.size (.cells #[.int .i64 a, .int .i64 b, .int .u32 (e : Int), .int .u32 (g : Int)] 50)))
        clear h9 B1 K1 K hB k0 k1
        go_wp2
        go_roundw
        case rel => exact ⟨k + 1, f, by omega, by go_num, rfl, Lib.hid HF.out.symm, HT.out.1, HT.out.2⟩
        case measure => simp [intOf] <;> omega
    · obtain rfl : k = 16 := by omega
      go_wp2
      go_ret
      exact ⟨retI (by rw [Hf.out]), hB⟩

end Go.Proofs.Ytknimnopopnbhaa
