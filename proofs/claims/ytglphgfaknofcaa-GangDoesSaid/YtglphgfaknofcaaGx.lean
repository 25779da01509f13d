/-
  The landed gang: DeleteFunc of numbers. No statement is proved here.
-/
import Derived.Test.YtglphgfaknofcaaGw
namespace Go.Proofs.Ytglphgfaknofcaa
open Go.RowKit Go.Maps

def lessL (v : Int) (is : List Int) : List Int := is.filter (fun x => !(x == v))
theorem firstI_at {is : List Int} {v : Int} (h : (lessL v is).length + 1 = is.length) : ∃ k : Nat, firstI (fun x => x == v) is = (k : Int) ∧ is[k]? = some v ∧ ∀ y ∈ is.take k, (y == v) = false := by
  unfold firstI
  cases e : is.findIdx? (fun x => x == v) with
  | none =>
    rw [List.findIdx?_eq_none_iff] at e
    have : lessL v is = is := List.filter_eq_self.2 (fun a ha => by rw [e a ha]; rfl)
    rw [this] at h
    omega
  | some k =>
    rw [List.findIdx?_eq_some_iff_getElem] at e
    obtain ⟨hk, hp, hn⟩ := e
    have hv : is[k] = v := by simpa using hp
    refine ⟨k, rfl, by rw [List.getElem?_eq_getElem hk, hv], fun y hy => ?_⟩
    obtain ⟨j, hj, rfl⟩ := List.mem_iff_getElem.1 hy
    rw [List.length_take] at hj
    have := hn j (by omega)
    rw [List.getElem_take]
    simpa using this
theorem Sh.done {w wr : World} {g vb i j B n c : Nat} {v : Int} {is : List Int} {tl : List Value} (h : Sh w g vb v is tl i j wr) (hj : is.length ≤ j) (hl : (lessL v is).length + 1 = n) (hc : n ≤ c) (hcm : c ≤ maxLen) (hB : B ≤ g) (hn : is.length = n) (hjn : j ≤ n) (ht : tl.length = c - n) (hvb : vb ≠ g) :
    i + 1 = n ∧ (∃ u, wr.cell? ⟨g, i, none⟩ = some u) ∧ wr.frozen? ⟨g, i, none⟩ = false ∧ (wr.setCell ⟨g, i, none⟩ (.int .i64 0)).ownsRow B 3 1 (.slice (some ⟨g, 0, none⟩) i c) i (vs (lessL v is)) ∧ w.grownBy (wr.setCell ⟨g, i, none⟩ (.int .i64 0)) (some g) ∧ Blk (wr.setCell ⟨g, i, none⟩ (.int .i64 0)) vb 3 #[.int .i64 v] := by
  obtain ⟨kept, M, h1, h2, h3, h4, K⟩ := h.blk
  have hk : kept = lessL v is := by rw [h4, List.take_of_length_le hj]; rfl
  have hi : i + 1 = n := by rw [← hl, ← hk, h1]
  have hd : is.drop j = [] := List.drop_of_length_le hj
  rw [hd] at K
  have hM : M.length = 1 := by omega
  have hsz : (vs kept ++ vs M ++ vs [] ++ tl).toArray.size = c := by
    rw [List.size_toArray, List.length_append, List.length_append, List.length_append, length_vs, length_vs, ht, h1, hM]
    show i + 1 + 0 + (c - n) = c
    omega
  refine ⟨hi, ⟨_, by rw [K.cell i]; exact Array.getElem?_eq_getElem (by rw [hsz]; omega)⟩, K.frozen i, own_blk (K.set_ i _) hB hcm (by rw [Array.size_setIfInBounds, hsz, Nat.mul_one]) (by omega) ?_, grown_trans h.grown (grown_cells g [.int .i64 0] wr i), h.box.grown (row := some g) (grown_cells g [.int .i64 0] wr i) (fun e => hvb (by injection e))⟩
  rw [List.setIfInBounds_toArray, List.toList_toArray, Nat.mul_one, List.take_set_of_le (Nat.le_refl _), ← hk]
  have e : vs kept ++ vs M ++ vs [] ++ tl = vs kept ++ (vs M ++ vs [] ++ tl) := by simp
  rw [e, List.take_append, length_vs, h1, Nat.sub_self, List.take_zero, List.append_nil, List.take_of_length_le (by rw [length_vs, h1]; exact Nat.le_refl _)]

set_option maxRecDepth 100000 in
set_option maxHeartbeats 8000000 in
theorem delf_any (B n c : Nat) (A : Option Addr) (is : List Int) (vb : Nat) (v : Int) (w : World) (hO : w.ownsRow B 3 1 (.slice A n c) n (vs is)) (hb : Blk w vb 3 #[.int .i64 v]) (hvb : vb < B) (hf : (lessL v is).length + 1 = n) (hn : n ≤ 1000) :
    Calls Try.prog 61 #[.slice A n c, .func (.func 62) #[] #[.pointer (some ⟨vb, 0, none⟩)]] w (fun e w' => e = .returned (.slice A (n - 1) c) ∧ w'.ownsRow B 3 1 (.slice A (n - 1) c) (n - 1) (vs (lessL v is)) ∧ w.grownBy w' (Value.slice A n c).ownBlock ∧ Blk w' vb 3 #[.int .i64 v]) := by
  have hI : IR w A n is := ⟨Reads.of_own hO, hn⟩
  have hL := hI.len
  have HI := Lib.hid (goneidx_any vb v A n c is w hb hI)
  obtain ⟨g, cur, rfl, hbg, K, hnc, hcm, hsz, hX⟩ := blk_own hO (by omega)
  have hg : vb ≠ g := by omega
  obtain ⟨k, hk, hkv, hkn⟩ := firstI_at (v := v) (is := is) (by omega)
  rw [hk] at HI
  have hkl := (List.getElem?_eq_some_iff.1 hkv).1
  have HSh : Hid (Sh w g vb v is (cur.toList.drop n) k (k + 1) w) := Lib.hid (Sh.start K (by simpa using hX) hb hkv hkn)
  have ht : (cur.toList.drop n).length = c - n := by rw [List.length_drop, Array.length_toList, hsz]; omega
  have HFin := Lib.hid (fun (i j : Nat) (wr : World) (h : Sh w g vb v is (cur.toList.drop n) i j wr) (hj : n ≤ j) (hjn : j ≤ n) => Sh.done (B := B) h (by omega) hf hnc hcm hbg hL hjn ht hg)
  generalize cur.toList.drop n = tl at *
  clear hO hb hI hk hkv hkn K hsz hX ht hcm
  have HL := Lib.hid hL
  have hkn : k < n := by omega
  clear hL
  have j0 : ((k : Int) == -1) = false := by simp
  have hW : IntKind.i64.wrap ((k : Int) + 1) = (k : Int) + 1 := by rw [IntKind.wrap_i64]; omega
  go_enter Try.func61, Try.ntmps61
  go_wp2_with fail
  refine HI.out.mono ?_
  rintro e w1 ⟨rfl, h1⟩
  have HSh := Lib.hid (HSh.out.more h1)
  clear h1
  go_wp2_with fail
  go_loopw [5, 6] (fun iv jv wr => ∃ (i j : Nat), j ≤ n ∧ i < j ∧ iv = .int .i64 (i : Int) ∧ jv = .int .i64 (j : Int) ∧ Hid (Sh w g vb v is tl i j wr)) (fun _ jv _ => n - (intOf jv).toNat)
  case atStart => exact ⟨k, k + 1, by have := HL.out; omega, by omega, rfl, by go_num, HSh⟩
  case round =>
    clear HSh
    obtain ⟨i, j, hj, hij, rfl, rfl, HS⟩ := hrel
    by_cases hlt : j < n
    · obtain ⟨x, hx⟩ := elem_at (l := is) (k := j) (by rw [HL.out]; exact hlt)
      have d0 := HS.out.cell hx
      have HX := Lib.hid hx
      have HC := Lib.hid (gone1_any vb v x wr HS.out.box)
      have i1 : (0 : Int) ≤ (j : Int) := by omega
      have i2 : (j : Int) < (n : Int) := by omega
      have i3 : (0 : Int) ≤ (i : Int) := by omega
      have i4 : (i : Int) < (n : Int) := by omega
      have hW1 : IntKind.i64.wrap ((i : Int) + 1) = (i : Int) + 1 := by rw [IntKind.wrap_i64]; omega
      have hW2 : IntKind.i64.wrap ((j : Int) + 1) = (j : Int) + 1 := by rw [IntKind.wrap_i64]; omega
      clear hx
      cases he : (x == v) with
      | true =>
        rw [he] at HC
        have HE := Lib.hid he
        clear he
        go_wp2_with fail
        refine HC.out.mono ?_
        rintro e w2 ⟨rfl, h9⟩
        have HS2 := Lib.hid ((HS.out.skip HX.out HE.out).more h9)
        clear d0
        go_wp2
        go_roundw
        case rel => exact ⟨i, j + 1, by omega, by omega, rfl, by go_num, HS2⟩
        case measure => simp [intOf]; omega
      | false =>
        rw [he] at HC
        have HE := Lib.hid he
        clear he
        go_wp2_with fail
        refine HC.out.mono ?_
        rintro e w2 ⟨rfl, h9⟩
        have HS2 := Lib.hid (HS.out.more h9)
        have e0 : w2.frozen? ⟨g, i, none⟩ = false := by obtain ⟨_, _, _, _, _, _, K⟩ := HS2.out.blk; exact K.frozen i
        obtain ⟨u, e1⟩ : ∃ u, w2.cell? ⟨g, i, none⟩ = some u := by
          obtain ⟨kept, M, h1, h2, h3, _, K⟩ := HS2.out.blk
          exact ⟨_, by rw [K.cell i]; exact Array.getElem?_eq_getElem (by rw [List.size_toArray, List.length_append, List.length_append, List.length_append, length_vs, length_vs]; omega)⟩
        have HS3 := Lib.hid (HS2.out.put HX.out HE.out hg)
        clear d0 h9
        go_wp2_with fail
        go_roundw
        case rel => exact ⟨i + 1, j + 1, by omega, by omega, by go_num, by go_num, HS3⟩
        case measure => simp [intOf]; omega
    · obtain ⟨hi, ⟨u, e1⟩, e2, hO, hG, hBk⟩ := HFin.out i j wr HS.out (by omega) hj
      have hcl : ∀ ty, (Builtin.clear_ #[28] ty #[.slice (some ⟨g, i, none⟩) 1 (c - i)]).run Try.prog wr = .ok (.tuple #[]) (wr.setCells g i [.int .i64 0]) := fun ty =>
        run_clear_many wr 28 3 ty (.int .i64 0) Try.underlying28 zero_int [.int .i64 0] g i 1 (c - i) (by omega) (by kernel_rfl) (by simp [Value.oneCell']) (fun j hj => by obtain rfl : j = 0 := (by simp at hj; omega); rw [Nat.add_zero, e1]; rfl) (fun j hj => by obtain rfl : j = 0 := (by simp at hj; omega); exact e2)
      have HE := Lib.hid (And.intro hO (And.intro hG hBk))
      have hq : wr.setCells g i [.int .i64 0] = wr.setCell ⟨g, i, none⟩ (.int .i64 0) := rfl
      rw [hq] at hcl
      clear hq hO hG hBk e1 e2
      obtain ⟨W2, hW2⟩ : ∃ W2, wr.setCell ⟨g, i, none⟩ (.int .i64 0) = W2 := ⟨_, rfl⟩
      rw [hW2] at hcl HE
      have j1 : (i : Int) ≤ (n : Int) := by omega
      have j2 : (n : Int) ≤ (c : Int) := by omega
      have j3 : (0 : Int) ≤ (i : Int) := by omega
      have j4 : (i : Int) ≤ (c : Int) := by omega
      have j5 : decide ((j : Int) < (n : Int)) = false := decide_eq_false (by omega)
      have j6 : n - i = 1 := by omega
      have j7 : ¬ c = i := by omega
      have HI2 : Hid (n - 1 = i) := Lib.hid (by omega)
      clear hW2
      go_wp2_with fail
      go_ret
      refine ⟨?_, by rw [HI2.out]; exact HE.out.1, HE.out.2.1, HE.out.2.2⟩
      rw [HI2.out]
      simp

end Go.Proofs.Ytglphgfaknofcaa
