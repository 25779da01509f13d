/-
  The landed gang: IndexFunc over Match's closure; the library's Clone of rows; Match. No statement is proved here.
-/
import Derived.Test.YtkbgpmgnkegipaaDoorGf
import Derived.WalkMore
namespace Go.Proofs.YtkbgpmgnkegipaaDoor
open Go.RowKit Go.Maps

theorem set_same {α : Type} (G : List α) (k : Nat) (a b : α) : (G.set k a).set k b = G.set k b := List.set_set ..
/-- a round of IndexFunc's -/
structure TR (lb pb g c n : Nat) (q : Option Nat) (G : List Gg) (k : Nat) (r : Gg) (w : World) (wr : World) : Prop where
  ls : ∃ G', LS lb g c n q G' wr ∧ ∀ y : Gg, G'.set k y = G.set k y
  pb : Blk wr pb 3 #[.int .i64 (k : Int)]
  row : RdX g q wr r
  grown : w.grownBy wr (some g)

set_option maxRecDepth 100000 in
set_option maxHeartbeats 8000000 in
theorem tryidx_any (lb pb g c n : Nat) (q : Option Nat) (G : List Gg) (k : Nat) (r : Gg) (w : World) (S : LS lb g c n q G w) (hP : Blk w pb 3 #[.int .i64 (k : Int)]) (hpg : pb ≠ g) (hk : k < n) (hr : RdX g q w r) (hR : ∀ x ∈ r.2.2.2, RowsG ((gsI G).set k [x])) :
    Calls Tryd.prog 32 #[.slice r.1 r.2.1 r.2.2.1, .func (.func 33) #[] #[.pointer (some ⟨lb, 0, none⟩), .pointer (some ⟨pb, 0, none⟩)]] w fun e w' =>
      e = .returned (.int .i64 (firstI (fun x => fitsB ((gsI G).set k [x])) r.2.2.2)) ∧ w.grownBy w' (some g) ∧ RdX g q w' r ∧
      ∀ (j : Nat) (x : Int), r.2.2.2[j]? = some x → fitsB ((gsI G).set k [x]) = true → (∀ y ∈ r.2.2.2.take j, fitsB ((gsI G).set k [y]) = false) → ∃ ad : Addr, LS lb g c n q (G.set k (some ad, 1, 1, [x])) w' := by
  obtain ⟨A, m, c2, is⟩ := r
  have HR := Lib.hid hR
  have HL : Hid (is.length = m) := Lib.hid (by have := hr.1; rw [length_vs] at this; exact this)
  have HK := Lib.hid (And.intro hk hpg)
  have h100 : m ≤ 100 := hr.2.1
  have H0 : Hid (TR lb pb g c n q G k (A, m, c2, is) w w) := Lib.hid ⟨⟨G, S, fun _ => rfl⟩, hP, hr, World.grownBy.refl _ _⟩
  clear hR S hP hpg hk hr
  obtain ⟨p, hp⟩ : ∃ p : Int → Bool, (fun x => fitsB ((gsI G).set k [x])) = p := ⟨_, rfl⟩
  have HPx : ∀ x, fitsB ((gsI G).set k [x]) = p x := fun x => by rw [← hp]
  have HPX := Lib.hid HPx
  simp only [HPx]
  clear HPx hp
  go_enter Tryd.func32, Tryd.ntmps32
  go_wp2_with fail
  go_loopw [8] (fun iv wr => ∃ j : Nat, j ≤ m ∧ iv = .int .i64 (j : Int) ∧ Hid ((∀ y ∈ is.take j, p y = false) ∧ TR lb pb g c n q G k (A, m, c2, is) w wr)) (fun iv _ => m - (intOf iv).toNat)
  case atStart => exact ⟨0, by omega, rfl, Lib.hid ⟨by simp, H0.out⟩⟩
  case round =>
    clear H0
    obtain ⟨j, hj, rfl, HA⟩ := hrel
    by_cases hlt : j < m
    · obtain ⟨x, hx⟩ := elem_at (l := is) (k := j) (by rw [HL.out]; exact hlt)
      obtain ⟨ad, rfl, d0⟩ := reads_int (HA.out.2.row.ir.1.row) hx
      obtain ⟨G', hS', hG'⟩ := HA.out.2.ls
      have hgs : (gsI G').set k [x] = (gsI G).set k [x] := by
        have := congrArg gsI (hG' (none, 1, 1, [x]))
        rw [gsI_set, gsI_set] at this
        exact this
      have HH := Lib.hid (try_any lb pb g c n q G' k x wr hS' HA.out.2.pb HK.out.1 (by rw [hgs]; exact HR.out x (List.mem_of_getElem? hx)))
      rw [hgs, HPX.out x] at HH
      unfold Tried at HH
      have HGE : Hid (∀ y : Gg, G'.set k y = G.set k y) := Lib.hid hG'
      have HX := Lib.hid hx
      have i1 : (0 : Int) ≤ (j : Int) := by omega
      have i2 : (j : Int) < (m : Int) := by omega
      clear hx hS' hG' hgs
      cases he : p x with
      | true =>
        rw [he] at HH
        have HV := Lib.hid (firstI_yes (p := p) HX.out he HA.out.1)
        have HT := Lib.hid he
        clear he
        go_wp2_with fail
        refine (HH.out).mono ?_
        rintro e w2 ⟨rfl, g9, ad9, S9⟩
        rw [HGE.out] at S9
        have HE : Hid (w.grownBy w2 (some g) ∧ RdX g q w2 (some ad, m, c2, is) ∧ LS lb g c n q (G.set k (some ad9, 1, 1, [x])) w2) := Lib.hid ⟨HA.out.2.grown.trans g9, HA.out.2.row.keep g9 (.inl rfl), S9⟩
        clear d0 g9 S9
        go_wp2
        go_ret
        rw [HV.out]
        refine ⟨rfl, HE.out.1, HE.out.2.1, fun j' x' h1 h2 h3 => ?_⟩
        have : j' = j := by
          rcases Nat.lt_trichotomy j' j with h | h | h
          · have := HA.out.1 x' (List.mem_iff_getElem?.2 ⟨j', by rw [List.getElem?_take_of_lt h]; exact h1⟩)
            rw [h2] at this; cases this
          · exact h
          · have := h3 x (List.mem_iff_getElem?.2 ⟨j, by rw [List.getElem?_take_of_lt h]; exact HX.out⟩)
            rw [HT.out] at this; cases this
        subst this
        rw [HX.out] at h1
        rw [← Option.some.inj h1]
        exact ⟨ad9, HE.out.2.2⟩
      | false =>
        rw [he] at HH
        have HA2 := Lib.hid (take_all (p := p) HA.out.1 HX.out he)
        clear he
        go_wp2_with fail
        refine (HH.out).mono ?_
        rintro e w2 ⟨rfl, g9, ad9, S9⟩
        rw [HGE.out] at S9
        have HE : Hid (TR lb pb g c n q G k (some ad, m, c2, is) w w2) := Lib.hid ⟨⟨_, S9, fun y => set_same _ _ _ _⟩, HA.out.2.pb.grown g9 (by have := HK.out.2; simpa using this), HA.out.2.row.keep g9 (.inl rfl), HA.out.2.grown.trans g9⟩
        clear d0 g9 S9
        go_wp2
        go_roundw
        case rel => exact ⟨j + 1, by omega, by go_num, Lib.hid ⟨HA2.out, HE.out⟩⟩
        case measure => simp [intOf]; omega
    · obtain rfl : j = m := by omega
      have hall : ∀ y ∈ is, p y = false := by have := HA.out.1; rwa [List.take_of_length_le (by rw [HL.out]; exact Nat.le_refl _)] at this
      have HV := Lib.hid (firstI_no (p := p) (l := is) hall)
      have HALL := Lib.hid hall
      clear hall
      go_wp2
      go_ret
      rw [HV.out]
      refine ⟨rfl, HA.out.2.grown, HA.out.2.row, fun j' x' h1 h2 _ => ?_⟩
      have := HALL.out x' (List.mem_of_getElem? h1)
      rw [h2] at this; cases this

set_option maxRecDepth 100000 in
set_option maxHeartbeats 4000000 in
theorem gsclone_any (ad : Addr) (n c : Nat) (gs : List Gg) (w : World) (hG : GW w (some ad) n gs) : Calls Tryd.prog 31 #[.slice (some ad) n c] w fun e w' =>
    ∃ A' c', e = .returned (.slice A' n c') ∧ w'.ownsRow w.heap.size 27 1 (.slice A' n c') n (flat gv gs) ∧ Below w.heap.size w w' := by
  obtain ⟨i0, hi0, hz0, hz1, hz2⟩ := info_parts9 slice_info
  have hn := hG.small
  have HC := Lib.hid (hG.row.alloc (Nat.le_refl _) (.cells #[] 27))
  have HB := Lib.hid ((Below.refl w.heap.size w).alloc (Nat.le_refl _) (.cells #[] 27))
  have hnil : ∀ u : World, (binOp BinOp.eql 42 (.slice (some ad) n c) (.slice none 0 0)).run Tryd.prog u = .ok (.bool false) u := fun u => by kernel_rfl
  have hones : ∀ u ∈ flat gv gs, u.oneCell' = true := flat_all gv (fun a u hu => by simp [gv] at hu; rw [hu]; rfl) gs
  have HON := Lib.hid hones
  clear hG hones
  go_enter Tryd.func31, Tryd.ntmps31
  go_wp2_with (
    at_builtin
    refine wpList_append_any _ rfl (.tmp 5) (.tmp 6) 42 rfl w.heap.size 27 i0 (.slice none 0 0) 1 24 Tryd.underlying42 hi0 hz0 hz1 hz2 rfl (by decide) (.slice (some ⟨w.heap.size, 0, none⟩) 0 0) 0 [] rfl (by simpa using World.ownsRow_made w #[] 0 (Nat.le_refl _) (by simp [maxLen]) (by simp)) _ (some ad) n c (flat gv gs) rfl HC.out HON.out (by simp only [maxLen]; omega) (by omega) (by simp) ?_
    intro v9 w9 own9 grow9 _
    rw [List.nil_append, Nat.zero_add] at own9
    obtain ⟨A9, c9, rfl, _, _⟩ := own_reads own9
    have HO := Lib.hid (And.intro own9 (HB.out.grown grow9 HB.out.size (fun k hk => by simp [Value.ownBlock] at hk; omega)))
    clear own9 grow9)
  go_ret
  exact ⟨A9, c9, rfl, HO.out.1, HO.out.2⟩

def matchL (cs : List (List Int)) : List Int := if choicesB cs = true then (matchR cs []).getD [] else []
def MatchSaid (cs : List (List Int)) (w : World) (e : Ending) (w' : World) : Prop :=
  ∃ A n c, e = .returned (.tuple #[.slice A n c, .bool (choicesB cs && fitsB cs)]) ∧ w'.ownsRow w.heap.size 3 1 (.slice A n c) n (vs (matchL cs)) ∧ Below w.heap.size w w'
theorem choices_rows {cs : List (List Int)} (h : choicesB cs = true) : RowsG cs ∧ cs.length ≤ 8 := by
  unfold choicesB at h
  rw [Bool.and_eq_true, decide_eq_true_eq, List.all_eq_true] at h
  refine ⟨fun row hr c hc => ?_, h.1⟩
  have := h.2 row hr
  unfold rowOk goodI at this
  rw [Bool.and_eq_true, List.all_eq_true] at this
  exact cpuB_true (this.1 c hc)
theorem rows_set {cs : List (List Int)} (h : RowsG cs) {k : Nat} {x : Int} (hx : 0 ≤ x ∧ x < 8) : RowsG (cs.set k [x]) := by
  intro row hr c hc
  rcases List.mem_or_eq_of_mem_set hr with hr | rfl
  · exact h row hr c hc
  · rw [show c = x by simpa using hc]; exact hx
theorem LS.turn {lb g c n : Nat} {q q' : Option Nat} {G : List Gg} {w w' : World} (h : LS lb g c n q G w) (hg : w.grownBy w' q) (hq : q' = q ∨ q' = some w.heap.size) (hl : ∀ b, q' = some b → b < w'.heap.size) : LS lb g c n q' G w' := by
  obtain ⟨cur, h1, h2, h3⟩ := h.row
  refine ⟨h.box.grown hg h.nq.1, ⟨cur, h1.grown hg h.nq.2, h2, h3⟩, fun y hy => (h.each y hy).turn hg hq, h.ne, ?_, h.nc, h.n9, h.len, hl⟩
  rcases hq with rfl | rfl
  · exact h.nq
  · have := h.box.lt
    have := h1.lt
    exact ⟨fun e => by injection e with e; omega, fun e => by injection e with e; omega⟩

/-- a round of Match's -/
structure MR (cs : List (List Int)) (M : List Int) (n lb : Nat) (k : Nat) (T : List Int) (A : Option Addr) (c : Nat) (w wr : World) : Prop where
  own : wr.ownsRow w.heap.size 3 1 (.slice A k c) k (vs T)
  bel : Below w.heap.size w wr
  nodup : T.Nodup
  len : T.length = k
  fit : ∃ M', matchR (cs.drop k) T = some M' ∧ M = T ++ M'
  ls : 0 < n → ∃ g cg G, LS lb g cg n (Value.slice A k c).ownBlock G wr ∧ gsI G = T.map (fun c => [c]) ++ cs.drop k ∧ w.heap.size ≤ g
  box : ∃ v, Blk wr lb 42 #[v]
end Go.Proofs.YtkbgpmgnkegipaaDoor
