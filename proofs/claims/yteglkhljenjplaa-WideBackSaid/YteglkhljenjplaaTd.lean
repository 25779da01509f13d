/-
  The contract of the landed wide's text of a number. No statement is proved here.
-/
import Derived.Test.YteglkhljenjplaaTc
namespace Go.Proofs.Yteglkhljenjplaa
open Go.RowKit

/-- digits as text -/
def txt (ds : List Nat) : ByteArray := ⟨(ds.map fun d => UInt8.ofNat (48 + d)).toArray⟩
theorem enc_small {n : Nat} (h : n < 128) : Utf8.encode (n : Int) = ⟨#[UInt8.ofNat n]⟩ := by
  have hv : Utf8.valid (n : Int) = true := by simp [Utf8.valid]; omega
  unfold Utf8.encode
  simp [hv, h]
theorem fold_txt : ∀ (ds : List Nat) (s : ByteArray), (∀ d ∈ ds, d < 10) → (ds.map fun d => ((48 + d : Nat) : Int)).foldl (fun r n => r ++ Utf8.encode n) s = s ++ txt ds
  | [], s, _ => by
    apply ByteArray.ext
    simp [txt]
  | d :: ds, s, h => by
    have hd := h d (by simp)
    rw [List.map_cons, List.foldl_cons, fold_txt ds _ (fun x hx => h x (by simp [hx])), enc_small (by omega)]
    apply ByteArray.ext
    simp [txt]
theorem runes_txt (ds : List Nat) (h : ∀ d ∈ ds, d < 10) : runesBytes (ds.map fun d => ((48 + d : Nat) : Int)) = txt ds := by
  unfold runesBytes
  rw [fold_txt ds _ h]
  apply ByteArray.ext
  simp [txt]
theorem dg_lt (k : Nat) : ∀ N, ∀ d ∈ dg k N, d < 10 := by
  induction k with
  | zero => intro N d hd; simp [dg] at hd
  | succ k ih =>
    intro N d hd
    by_cases h : N < 10
    · rw [dg_small h] at hd; simp at hd; omega
    · rw [dg_big (by omega)] at hd
      rcases List.mem_append.1 hd with h1 | h1
      · exact ih _ d h1
      · simp at h1; omega
theorem dg_pos (k N : Nat) : 0 < (dg (k + 1) N).length := by
  by_cases h : N < 10
  · rw [dg_small h]; simp
  · rw [dg_big (by omega)]; simp
theorem qf_val {hi lo : Nat} : valQ (qf hi lo) = num hi lo := by
  rw [valQ_def, num_def]
  show ((hi / 4294967296 * 4294967296 + hi % 4294967296) * 4294967296 + lo / 4294967296) * 4294967296 + lo % 4294967296 = _
  omega
theorem convert_txt {W : World} {base g n cap : Nat} {ds : List Nat} (own : W.ownsRow base 21 1 (.slice (some ⟨g, 0, none⟩) n cap) n (ds.map fun d => .int .i32 ((48 + d : Nat) : Int))) (h : ∀ d ∈ ds, d < 10) :
    (convert 71 9 (.slice (some ⟨g, 0, none⟩) n cap)).run Try.prog W = .ok (.string (txt ds)) W := by
  have hl : ds.length = n := by have := own.1; simpa using this
  have := run_convert_runes (P := Try.prog) W 71 9 21 ⟨g, 0, none⟩ n cap (ds.map fun d => ((48 + d : Nat) : Int)) (by simp [hl]) Try.underlying71 Try.underlying21 Try.underlying9 (fun j hj => by
    have hjn : j < ds.length := by simpa using hj
    have hc := own.cellAt j (by omega)
    have e : (⟨g, 0, none⟩ : Addr).add j = ⟨g, j, none⟩ := by rw [Addr.add_mid, Nat.zero_add]
    rw [e, hc, List.getElem?_map, List.getElem?_eq_getElem hjn, List.getD_eq_getElem?_getD, List.getElem?_map, List.getElem?_eq_getElem hjn]
    rfl)
  rw [this, List.take_of_length_le (by simp [hl]), runes_txt ds h]

theorem lay_slice {bL bD base : Nat} {ds : List Nat} {w : World} {e : Ending} {w' : World} (h : LaySaid bL bD base 0 [] ds w e w') (hp : 0 < ds.length) (hl : ∀ d ∈ ds, d < 10) :
    ∃ gv cp : Nat, e = .returned (.tuple #[]) ∧ Blk w' bL 72 #[clo bL bD] ∧ w'.cell? ⟨bD, 0, none⟩ = some (.slice (some ⟨gv, 0, none⟩) ds.length cp) ∧ (convert 71 9 (.slice (some ⟨gv, 0, none⟩) ds.length cp)).run Try.prog w' = .ok (.string (txt ds)) w' ∧ Below bD w w' := by
  obtain ⟨he, v', L3, D3, own3, h3⟩ := h
  simp only [Nat.zero_add, List.nil_append] at own3
  obtain ⟨gv, cp, rfl, _⟩ := own3.form hp
  exact ⟨gv, cp, he, L3, D3.cell 0, convert_txt own3 hl, h3⟩
theorem c2_low {B : Nat} {a b : Value} {w w' : World} (h : C2 B a b w) (hb : Below (B + 1) w w') : C2 B a b w' := ⟨(hb.cell (show B < B + 1 by omega)).trans h.1, (hb.cell (show B < B + 1 by omega)).trans h.2⟩

set_option maxHeartbeats 2000000 in
theorem text_any (k : Nat) (hk : k ≤ 100) (hi lo : Nat) (hN : num hi lo < 10 ^ (k + 1)) (hh : hi < 18446744073709551616) (hl : lo < 18446744073709551616) (w : World) :
    Calls Try.prog 27 #[.agg #[.int .u64 (hi : Int), .int .u64 (lo : Int)]] w (Ans (.string (txt (dg (k + 1) (num hi lo)))) w) := by
  have hmf : ∀ (fn : Fn) (first cap : Array Value) (w : World), (Instr.makeFunc fn first cap).run Try.prog w = .ok (.func fn first cap) w := fun _ _ _ _ => rfl
  have HS := Lib.hid (fun u => split_any hi lo hh hl u)
  have hqf := qf_lt hh hl
  have hqv : valQ (qf hi lo) = num hi lo := qf_val
  generalize qf hi lo = f at HS hqf hqv
  have HLAY := Lib.hid (fun u h1 h2 h3 h4 => lay_any (w.heap.size + 1 + 1) (w.heap.size + 1) (w.heap.size + 1 + 1 + 1) (by omega) (by omega) k f (.slice none 0 0) 0 [] u (fun j _ => hqf j) (by rw [hqv]; exact hN) (by omega) h1 h2 h3 h4)
  rw [hqv] at HLAY
  have hds := dg_lt (k + 1) (num hi lo)
  have hpos := dg_pos k (num hi lo)
  have hlen := dg_len (k + 1) (num hi lo)
  generalize dg (k + 1) (num hi lo) = ds at HLAY hds hpos hlen ⊢
  obtain ⟨b1, b2, b3, bb⟩ := blks3 w 24 71 72 #[.int .u64 (hi : Int), .int .u64 (lo : Int)] #[.slice none 0 0] #[clo (w.heap.size + 1 + 1) (w.heap.size + 1)]
  have HB := Lib.hid (And.intro b1 (And.intro b2 (And.intro b3 (And.intro bb (And.intro hds (And.intro hpos hlen))))))
  clear b1 b2 b3 bb hk hh hl hN hqf hqv hds hpos hlen
  go_enter Try.func27, Try.ntmps27
  go_upto_region 4 with fail
  obtain ⟨F1, F2, F3, GB, hds, hpos, hlen⟩ := HB.out
  clear HB
  have HDS := Lib.hid (And.intro hds (And.intro hpos hlen))
  clear hds hpos hlen
  unfold clo at F1 F2 F3 GB
  have hsz : w.heap.size + 1 + 1 + 1 ≤ (((w.alloc (.cells #[.int .u64 (hi : Int), .int .u64 (lo : Int)] 24)).alloc (.cells #[.slice none 0 0] 71)).alloc (.cells #[.func (.func 39) #[] #[.pointer (some ⟨w.heap.size + 1 + 1, 0, none⟩), .pointer (some ⟨w.heap.size + 1, 0, none⟩)]] 72)).heap.size := by simp
  generalize ((w.alloc (.cells #[.int .u64 (hi : Int), .int .u64 (lo : Int)] 24)).alloc (.cells #[.slice none 0 0] 71)).alloc (.cells #[.func (.func 39) #[] #[.pointer (some ⟨w.heap.size + 1 + 1, 0, none⟩), .pointer (some ⟨w.heap.size + 1, 0, none⟩)]] 72) = V at F1 F2 F3 GB hsz ⊢
  have k1 : C2 _ _ _ V.drew := F1.two
  have k3 : V.drew.cell? ⟨w.heap.size + 1 + 1, 0, none⟩ = some (.func (.func 39) #[] #[.pointer (some ⟨w.heap.size + 1 + 1, 0, none⟩), .pointer (some ⟨w.heap.size + 1, 0, none⟩)]) := F3.cell 0
  have E2 : Blk V.drew _ _ _ := F2
  have E3 : Blk V.drew (w.heap.size + 1 + 1) 72 #[clo (w.heap.size + 1 + 1) (w.heap.size + 1)] := F3
  have EG := GB.drew
  clear F1 F2 F3 GB
  go_region_held3 (fun w' => w'.cell? ⟨w.heap.size, 0, none⟩ = some (.int .u64 (hi : Int)) ∧ w'.cell? ⟨w.heap.size, 1, none⟩ = some (.int .u64 (lo : Int)) ∧ w'.cell? ⟨w.heap.size + 1 + 1, 0, none⟩ = some (.func (.func 39) #[] #[.pointer (some ⟨w.heap.size + 1 + 1, 0, none⟩), .pointer (some ⟨w.heap.size + 1, 0, none⟩)]))
    (first | exact ⟨m1.1, m1.2, m3⟩ | exact ⟨j1.1, j1.2, j3⟩ | exact ⟨k1.1, k1.2, k3⟩)
    (first
      | (go_at_call 30; (with_reducible refine (HS.out _).mono ?_); rintro e w2 ⟨rfl, h2⟩; have j1 := k1.below h2; have j3 := (h2.cell (World.block_lt_of_cell? _ _ k3)).trans k3; have G2 := E2.below h2 E2.lt; have G3 := E3.below h2 E3.lt; have G0 := EG.trans (h2.mono EG.size); have hs2 := h2.size)
      | (refine (HLAY.out _ G3 G2 (World.ownsRow_nil _ _ _ _) (Nat.le_trans hsz hs2)).mono ?_; intro e w3 hsaid; obtain ⟨gv, cp, rfl, L3, c2, hcv, h3⟩ := lay_slice hsaid HDS.out.2.1 HDS.out.1; clear hsaid; have m1 := c2_low j1 h3; have m3 := (show w3.cell? ⟨w.heap.size + 1 + 1, 0, none⟩ = some (.func (.func 39) #[] #[.pointer (some ⟨w.heap.size + 1 + 1, 0, none⟩), .pointer (some ⟨w.heap.size + 1, 0, none⟩)]) from L3.cell 0)))
  have HE := Lib.hid (G0.trans (h3.mono (show w.heap.size ≤ w.heap.size + 1 by omega)))
  clear L3 h3 m1 m3 j1 j3 k1 k3 G2 G3 G0 E2 E3 EG
  go_wp2
  go_ret
  exact ⟨rfl, HE.out⟩

end Go.Proofs.Yteglkhljenjplaa
